/- KuD KuE KuF KuG: joined. -/
import Derived.Test.YtkakgjmajplgmaaZd
namespace Go.Proofs.Ytkakgjmajplgmaa
open Go.RowKit
set_option linter.unusedVariables false

theorem claim_len : (Try.prog.info? 51).map (·.size) = some 9 := by kernel_rfl
theorem load_mid {P : Program} {w : World} {b i : Nat} {cs : List Value} {ty : TypeId} {d : TypeDesc} (hr : w.rangeAt b i cs) (hu : P.underlying ty = some d) (hd : d.isRow = true) (hi : (P.info? ty).map (·.size) = some cs.length) : (Instr.loadAt ty (.pointer (some ⟨b, i, none⟩))).run P w = .ok (.agg cs.toArray) w := by
  simp only [Instr.loadAt, Instr.sureAddr, Sem.run_bind, Sem.run_pure, Result.andThen_ok, run_loadVar_mid w b i ty cs d hr hu hd hi]
theorem config_len' : (Try.prog.info? 25).map (·.size) = some 4 := by kernel_rfl
theorem cl_three {a b c : Value} {i : Nat} {cs : Array Value} (h0 : cs[i]? = some a) (h1 : cs[i + 1]? = some b) (h2 : cs[i + 2]? = some c) : ∀ j v, [a, b, c][j]? = some v → cs[i + j]? = some v := by
  intro j v hj
  rcases j with _ | _ | _ | j
  · cases hj; exact h0
  · cases hj; exact h1
  · cases hj; exact h2
  · simp at hj
theorem cl_four {a b c d : Value} {i : Nat} {cs : Array Value} (h0 : cs[i]? = some a) (h1 : cs[i + 1]? = some b) (h2 : cs[i + 2]? = some c) (h3 : cs[i + 3]? = some d) : ∀ j v, [a, b, c, d][j]? = some v → cs[i + j]? = some v := by
  intro j v hj
  rcases j with _ | _ | _ | _ | j
  · cases hj; exact h0
  · cases hj; exact h1
  · cases hj; exact h2
  · cases hj; exact h3
  · simp at hj

theorem kByTenant (an ah ao : Option Addr) (ln cn lh ch ul cap : Nat) (half age t x y z n : Int) (w : World) :
    Calls Try.prog 33 #[.agg #[.slice an ln cn, .slice ah lh ch, .int .i64 half, .int .i64 age, .slice ao ul cap, .int .i64 t, .int .i64 x, .int .i64 y, .int .i64 z], .int .i64 n] w (RetBelow (.bool (n == t)) w) := by
  go_enter Try.func33, Try.ntmps33
  go_wp2_with fail
  go_ret
  exact ⟨rfl, (Below.refl _ _).alloc (Nat.le_refl _) _⟩

theorem kByCohort (an ah ao : Option Addr) (ln cn lh ch ul cap : Nat) (half age t x y z n : Int) (w : World) :
    Calls Try.prog 38 #[.agg #[.slice an ln cn, .slice ah lh ch, .int .i64 half, .int .i64 age, .slice ao ul cap, .int .i64 t, .int .i64 x, .int .i64 y, .int .i64 z], .int .i64 n] w (RetBelow (.bool (!(n == t))) w) := by
  go_enter Try.func38, Try.ntmps38
  go_wp2_with fail
  go_ret
  exact ⟨rfl, (Below.refl _ _).alloc (Nat.le_refl _) _⟩

set_option maxHeartbeats 1000000 in
set_option maxRecDepth 8000 in
theorem kOfTenant (c : Cmd) (vn vh : Value) (used : List V3) (ao : Option Addr) (cap ub uo : Nat) (t : Int) (need : V3) (n : Int) (w : World) (h12 : c.nodes.length ≤ 12) (h : CmAt c vn vh w) (hU : Sl V3.c 26 3 w ao cap ub uo used) (h0 : 0 ≤ n) :
    Calls Try.prog 34 #[.agg #[vn, vh, .int .i64 c.half, .int .i64 c.age, .slice ao used.length cap, .int .i64 t, .int .i64 need.x, .int .i64 need.y, .int .i64 need.z], .int .i64 n] w (RetBelow (.agg (Qt.add (Qt.ath used n) need).c) w) := by
  have hus := fun w2 (g : Below w.heap.size w w2) => kUsed used ao cap ub uo n w2 h0 (hU.kept g)
  obtain ⟨u, hu⟩ : ∃ u, Qt.ath used n = u := ⟨_, rfl⟩
  have had := fun w2 => kAdd3 u need w2
  obtain ⟨s, hs⟩ : ∃ s, Qt.add u need = s := ⟨_, rfl⟩
  rw [hu, hs]
  rw [hs] at had
  simp only [hu] at hus
  clear hu hs
  obtain ⟨u1, u2, u3⟩ := u
  obtain ⟨s1, s2, s3⟩ := s
  simp only [V3.c] at *
  obtain ⟨x, y, z⟩ := need
  obtain ⟨kind, ns, hosts, half, age, gg, k0⟩ := c
  simp only at *
  obtain ⟨an, cn, nb, no, ah, ch, hb, ho, rfl, rfl, hN, _⟩ := h
  simp only at *
  have hNi := hN.idx
  obtain ⟨ul, hul⟩ : ∃ k, used.length = k := ⟨_, rfl⟩
  obtain ⟨ln, hln⟩ : ∃ k, ns.length = k := ⟨_, rfl⟩
  obtain ⟨lh, hlh⟩ : ∃ k, hosts.length = k := ⟨_, rfl⟩
  simp only [hul, hln, hlh] at *
  have rA := (Row.new w #[.slice an ln cn, .slice ah lh ch, .int .i64 half, .int .i64 age, .slice ao ul cap, .int .i64 t, .int .i64 x, .int .i64 y, .int .i64 z] 51).under ((Below.refl _ _).alloc (Nat.le_refl _) (.cells #[.int .i64 0, .int .i64 0, .int .i64 0] 29))
  have rB := Row.new (w.alloc (.cells #[.slice an ln cn, .slice ah lh ch, .int .i64 half, .int .i64 age, .slice ao ul cap, .int .i64 t, .int .i64 x, .int .i64 y, .int .i64 z] 51)) #[.int .i64 0, .int .i64 0, .int .i64 0] 29
  have g0 := two_below w (.cells #[.slice an ln cn, .slice ah lh ch, .int .i64 half, .int .i64 age, .slice ao ul cap, .int .i64 t, .int .i64 x, .int .i64 y, .int .i64 z] 51) (.cells #[.int .i64 0, .int .i64 0, .int .i64 0] 29)
  rw [World.size_alloc] at rB
  have s0 : ((w.alloc (.cells #[.slice an ln cn, .slice ah lh ch, .int .i64 half, .int .i64 age, .slice ao ul cap, .int .i64 t, .int .i64 x, .int .i64 y, .int .i64 z] 51)).alloc (.cells #[.int .i64 0, .int .i64 0, .int .i64 0] 29)).heap.size = w.heap.size + 1 + 1 := by rw [World.size_alloc, World.size_alloc]
  have S0 := Lib.hid s0; have RA := Lib.hid rA; have RB := Lib.hid rB; have G0 := Lib.hid g0; have HUS := Lib.hid hus; have HAD := Lib.hid had
  clear s0 rA rB g0 hus had hN hNi hU h12 hul hln hlh
  go_enter Try.func34, Try.ntmps34
  go_wp2_with fail
  have s0 := S0.out; have rA := RA.out; have rB := RB.out; have g0 := G0.out
  clear S0 RA RB G0
  obtain ⟨W, hW⟩ : ∃ V, (w.alloc (.cells #[.slice an ln cn, .slice ah lh ch, .int .i64 half, .int .i64 age, .slice ao ul cap, .int .i64 t, .int .i64 x, .int .i64 y, .int .i64 z] 51)).alloc (.cells #[.int .i64 0, .int .i64 0, .int .i64 0] 29) = V := ⟨_, rfl⟩
  rw [hW] at rA rB g0 s0 ⊢
  have hcf := fun w2 (g : Below W.heap.size W w2) => row_range (rA.under g) 0 [.slice an ln cn, .slice ah lh ch, .int .i64 half, .int .i64 age] (cl_four rfl rfl rfl rfl)
  have hsl := fun w2 (g : Below W.heap.size W w2) => (show w2.cell? ⟨w.heap.size, 4, none⟩ = some (.slice ao ul cap) from (rA.under g).at_ 4)
  have htn := fun w2 (g : Below W.heap.size W w2) => (show w2.cell? ⟨w.heap.size, 5, none⟩ = some (.int .i64 t) from (rA.under g).at_ 5)
  have hnd := fun w2 (g : Below W.heap.size W w2) => row_range (rA.under g) 6 [.int .i64 x, .int .i64 y, .int .i64 z] (cl_three rfl rfl rfl)
  have hlw := fun w2 (g : Below W.heap.size W w2) => g0.trans (g.mono g0.size)
  have HCF := Lib.hid hcf; have HSL := Lib.hid hsl; have HTN := Lib.hid htn; have HND := Lib.hid hnd; have HLW := Lib.hid hlw
  have RB := Lib.hid rB
  clear hcf hsl htn hnd hlw rA g0 hW rB s0
  refine region_quiet_tail 7 (fun w2 => Below W.heap.size W w2) (by kernel_rfl) (by kernel_rfl) (below_drewN (Below.refl _ _) 1) ?_
  simp only [List.take_succ_cons, List.take_zero, List.drop_succ_cons, List.drop_zero]
  repeat (first
    | (go_big_quiet_skip)
    | (refine quiet_cell _ _ 26 _ _ HSL.out rfl rfl ?_ Try.underlying26 rfl ?_; (focus kernel_rfl); simp only [Act.put, List.setIfInBounds_toArray, List.set_cons_zero, List.set_cons_succ])
    | (refine quiet_mid w.heap.size 6 _ 29 _ _ HND.out rfl rfl ?_ Try.underlying29 rfl ?_ ?_; (focus kernel_rfl); (focus kernel_rfl); simp only [Act.put, List.setIfInBounds_toArray, List.set_cons_zero, List.set_cons_succ])
    | (go_big_quiet_step ((intro g2; first
      | (with_reducible rfl)
      | (with_reducible exact quiet_below g2 (HUS.out _ (HLW.out _ g2)))
      | (with_reducible exact quiet_below g2 (HAD.out _))))))
  refine wpQuiet_nil ?_
  intro w2 g2
  have R2 := Lib.hid (RB.out.under g2); have L2 := Lib.hid (HLW.out w2 g2)
  clear g2 HCF HSL HTN HND HLW HUS HAD RB
  go_wp2_with (first | (refine wpList_store_row rfl 29 _ _ rfl (w.heap.size + 1) #[.int .i64 s1, .int .i64 s2, .int .i64 s3] rfl rfl _ _ R2.out vec_len rfl (one_cells _ _ _) ?_) | fail)
  refine bodyPost_ret (results_cell_row (p := 4) (by kernel_rfl) _ _ (w.heap.size + 1) _ _ _ _ rfl (R2.out.setRow _) Try.underlying29 rfl vec_len) rfl ?_
  exact ⟨rfl, below_setRow3 L2.out (by omega) _⟩

set_option maxHeartbeats 1000000 in
set_option maxRecDepth 8000 in
theorem kClaimNom (c : Cmd) (vn vh : Value) (used : List V3) (ao : Option Addr) (cap ub uo : Nat) (t : Int) (need : V3) (n : Int) (w : World) (h12 : c.nodes.length ≤ 12) (h : CmAt c vn vh w) (hU : Sl V3.c 26 3 w ao cap ub uo used) :
    Calls Try.prog 37 #[.agg #[vn, vh, .int .i64 c.half, .int .i64 c.age, .slice ao used.length cap, .int .i64 t, .int .i64 need.x, .int .i64 need.y, .int .i64 need.z], .int .i64 n] w (RetBelow (.agg (Qt.nominal c.nodes n).c) w) := by
  have hnm := fun w2 (g : Below w.heap.size w w2) => kNominal c vn vh n w2 h12 (h.kept g)
  obtain ⟨s, hs⟩ : ∃ s, Qt.nominal c.nodes n = s := ⟨_, rfl⟩
  rw [hs] at hnm ⊢
  clear hs
  obtain ⟨s1, s2, s3⟩ := s
  simp only [V3.c, Cmd.f] at *
  obtain ⟨x, y, z⟩ := need
  obtain ⟨kind, ns, hosts, half, age, gg, k0⟩ := c
  simp only at *
  obtain ⟨an, cn, nb, no, ah, ch, hb, ho, rfl, rfl, hN, _⟩ := h
  simp only at *
  have hNi := hN.idx
  obtain ⟨ul, hul⟩ : ∃ k, used.length = k := ⟨_, rfl⟩
  obtain ⟨ln, hln⟩ : ∃ k, ns.length = k := ⟨_, rfl⟩
  obtain ⟨lh, hlh⟩ : ∃ k, hosts.length = k := ⟨_, rfl⟩
  simp only [hul, hln, hlh] at *
  have rA := (Row.new w #[.slice an ln cn, .slice ah lh ch, .int .i64 half, .int .i64 age, .slice ao ul cap, .int .i64 t, .int .i64 x, .int .i64 y, .int .i64 z] 51).under ((Below.refl _ _).alloc (Nat.le_refl _) (.cells #[.int .i64 0, .int .i64 0, .int .i64 0] 29))
  have rB := Row.new (w.alloc (.cells #[.slice an ln cn, .slice ah lh ch, .int .i64 half, .int .i64 age, .slice ao ul cap, .int .i64 t, .int .i64 x, .int .i64 y, .int .i64 z] 51)) #[.int .i64 0, .int .i64 0, .int .i64 0] 29
  have g0 := two_below w (.cells #[.slice an ln cn, .slice ah lh ch, .int .i64 half, .int .i64 age, .slice ao ul cap, .int .i64 t, .int .i64 x, .int .i64 y, .int .i64 z] 51) (.cells #[.int .i64 0, .int .i64 0, .int .i64 0] 29)
  rw [World.size_alloc] at rB
  have s0 : ((w.alloc (.cells #[.slice an ln cn, .slice ah lh ch, .int .i64 half, .int .i64 age, .slice ao ul cap, .int .i64 t, .int .i64 x, .int .i64 y, .int .i64 z] 51)).alloc (.cells #[.int .i64 0, .int .i64 0, .int .i64 0] 29)).heap.size = w.heap.size + 1 + 1 := by rw [World.size_alloc, World.size_alloc]
  obtain ⟨RF, RB, G0⟩ : Hid (World.rangeAt ((w.alloc (.cells #[.slice an ln cn, .slice ah lh ch, .int .i64 half, .int .i64 age, .slice ao ul cap, .int .i64 t, .int .i64 x, .int .i64 y, .int .i64 z] 51)).alloc (.cells #[.int .i64 0, .int .i64 0, .int .i64 0] 29)) w.heap.size 0 [.slice an ln cn, .slice ah lh ch, .int .i64 half, .int .i64 age]) ∧ Hid (Row ((w.alloc (.cells #[.slice an ln cn, .slice ah lh ch, .int .i64 half, .int .i64 age, .slice ao ul cap, .int .i64 t, .int .i64 x, .int .i64 y, .int .i64 z] 51)).alloc (.cells #[.int .i64 0, .int .i64 0, .int .i64 0] 29)) (w.heap.size + 1) #[.int .i64 0, .int .i64 0, .int .i64 0] 29) ∧ Hid (Below w.heap.size w ((w.alloc (.cells #[.slice an ln cn, .slice ah lh ch, .int .i64 half, .int .i64 age, .slice ao ul cap, .int .i64 t, .int .i64 x, .int .i64 y, .int .i64 z] 51)).alloc (.cells #[.int .i64 0, .int .i64 0, .int .i64 0] 29))) := ⟨Lib.hid (row_range rA 0 _ (cl_four rfl rfl rfl rfl)), Lib.hid rB, Lib.hid g0⟩
  have HNM := Lib.hid hnm
  clear s0 rA rB g0 hnm hN hNi hU h12 hul hln hlh
  go_enter Try.func37, Try.ntmps37
  go_wp2_with (first | (refine wpList_load_mid rfl 25 _ rfl w.heap.size 0 rfl _ _ RF.out Try.underlying25 rfl config_len' ?_) | fail)
  refine (HNM.out _ G0.out).mono ?_
  rintro er w2 ⟨rfl, b2⟩
  have R2 := Lib.hid (RB.out.under b2); have L2 := Lib.hid (below_trans G0.out b2)
  clear b2 RF RB G0 HNM
  go_wp2_with (first | (refine wpList_store_row rfl 29 _ _ rfl (w.heap.size + 1) #[.int .i64 s1, .int .i64 s2, .int .i64 s3] rfl rfl _ _ R2.out vec_len rfl (one_cells _ _ _) ?_) | fail)
  refine bodyPost_ret (results_cell_row (p := 4) (by kernel_rfl) _ _ (w.heap.size + 1) _ _ _ _ rfl (R2.out.setRow _) Try.underlying29 rfl vec_len) rfl ?_
  exact ⟨rfl, below_setRow3 L2.out (by omega) _⟩

set_option maxHeartbeats 1000000 in
set_option maxRecDepth 8000 in
theorem kOfCohort (c : Cmd) (vn vh : Value) (used : List V3) (ao : Option Addr) (cap ub uo : Nat) (t : Int) (need : V3) (n : Int) (w : World) (h12 : c.nodes.length ≤ 12) (h : CmAt c vn vh w) (hU : Sl V3.c 26 3 w ao cap ub uo used) :
    Calls Try.prog 39 #[.agg #[vn, vh, .int .i64 c.half, .int .i64 c.age, .slice ao used.length cap, .int .i64 t, .int .i64 need.x, .int .i64 need.y, .int .i64 need.z], .int .i64 n] w (RetBelow (.agg (Qt.add (Qt.add (Qt.sum c.nodes n used) need) (Qt.kept c.nodes used n t)).c) w) := by
  have hsm := fun w2 (g : Below w.heap.size w w2) => qSum c vn vh n used ao cap ub uo w2 (by omega) (h.kept g) (hU.kept g)
  have hkp := fun w2 (g : Below w.heap.size w w2) => kKept c vn vh used ao cap ub uo n t w2 h12 (h.kept g) (hU.kept g)
  obtain ⟨u, hu⟩ : ∃ u, Qt.sum c.nodes n used = u := ⟨_, rfl⟩
  obtain ⟨k, hk⟩ : ∃ u, Qt.kept c.nodes used n t = u := ⟨_, rfl⟩
  have had := fun w2 => kAdd3 u need w2
  obtain ⟨s, hs⟩ : ∃ s, Qt.add u need = s := ⟨_, rfl⟩
  have had2 := fun w2 => kAdd3 s k w2
  obtain ⟨r, hr⟩ : ∃ q, Qt.add s k = q := ⟨_, rfl⟩
  rw [hu, hk, hs, hr]
  rw [hs] at had
  rw [hr] at had2
  simp only [hu] at hsm
  simp only [hk] at hkp
  clear hu hs hk hr
  obtain ⟨u1, u2, u3⟩ := u
  obtain ⟨k1, k2, k3⟩ := k
  obtain ⟨s1, s2, s3⟩ := s
  obtain ⟨r1, r2, r3⟩ := r
  simp only [V3.c, Cmd.f] at *
  obtain ⟨x, y, z⟩ := need
  obtain ⟨kind, ns, hosts, half, age, gg, k0⟩ := c
  simp only at *
  obtain ⟨an, cn, nb, no, ah, ch, hb, ho, rfl, rfl, hN, _⟩ := h
  simp only at *
  have hNi := hN.idx
  obtain ⟨ul, hul⟩ : ∃ k, used.length = k := ⟨_, rfl⟩
  obtain ⟨ln, hln⟩ : ∃ k, ns.length = k := ⟨_, rfl⟩
  obtain ⟨lh, hlh⟩ : ∃ k, hosts.length = k := ⟨_, rfl⟩
  simp only [hul, hln, hlh] at *
  have rA := (Row.new w #[.slice an ln cn, .slice ah lh ch, .int .i64 half, .int .i64 age, .slice ao ul cap, .int .i64 t, .int .i64 x, .int .i64 y, .int .i64 z] 51).under ((Below.refl _ _).alloc (Nat.le_refl _) (.cells #[.int .i64 0, .int .i64 0, .int .i64 0] 29))
  have rB := Row.new (w.alloc (.cells #[.slice an ln cn, .slice ah lh ch, .int .i64 half, .int .i64 age, .slice ao ul cap, .int .i64 t, .int .i64 x, .int .i64 y, .int .i64 z] 51)) #[.int .i64 0, .int .i64 0, .int .i64 0] 29
  have g0 := two_below w (.cells #[.slice an ln cn, .slice ah lh ch, .int .i64 half, .int .i64 age, .slice ao ul cap, .int .i64 t, .int .i64 x, .int .i64 y, .int .i64 z] 51) (.cells #[.int .i64 0, .int .i64 0, .int .i64 0] 29)
  rw [World.size_alloc] at rB
  have s0 : ((w.alloc (.cells #[.slice an ln cn, .slice ah lh ch, .int .i64 half, .int .i64 age, .slice ao ul cap, .int .i64 t, .int .i64 x, .int .i64 y, .int .i64 z] 51)).alloc (.cells #[.int .i64 0, .int .i64 0, .int .i64 0] 29)).heap.size = w.heap.size + 1 + 1 := by rw [World.size_alloc, World.size_alloc]
  have S0 := Lib.hid s0; have RA := Lib.hid rA; have RB := Lib.hid rB; have G0 := Lib.hid g0; have HSM := Lib.hid hsm; have HKP := Lib.hid hkp; have HAD := Lib.hid had; have HAD2 := Lib.hid had2
  clear s0 rA rB g0 hsm hkp had had2 hN hNi hU h12 hul hln hlh
  go_enter Try.func39, Try.ntmps39
  go_wp2_with fail
  have s0 := S0.out; have rA := RA.out; have rB := RB.out; have g0 := G0.out
  clear S0 RA RB G0
  obtain ⟨W, hW⟩ : ∃ V, (w.alloc (.cells #[.slice an ln cn, .slice ah lh ch, .int .i64 half, .int .i64 age, .slice ao ul cap, .int .i64 t, .int .i64 x, .int .i64 y, .int .i64 z] 51)).alloc (.cells #[.int .i64 0, .int .i64 0, .int .i64 0] 29) = V := ⟨_, rfl⟩
  rw [hW] at rA rB g0 s0 ⊢
  have hcf := fun w2 (g : Below W.heap.size W w2) => row_range (rA.under g) 0 [.slice an ln cn, .slice ah lh ch, .int .i64 half, .int .i64 age] (cl_four rfl rfl rfl rfl)
  have hsl := fun w2 (g : Below W.heap.size W w2) => (show w2.cell? ⟨w.heap.size, 4, none⟩ = some (.slice ao ul cap) from (rA.under g).at_ 4)
  have htn := fun w2 (g : Below W.heap.size W w2) => (show w2.cell? ⟨w.heap.size, 5, none⟩ = some (.int .i64 t) from (rA.under g).at_ 5)
  have hnd := fun w2 (g : Below W.heap.size W w2) => row_range (rA.under g) 6 [.int .i64 x, .int .i64 y, .int .i64 z] (cl_three rfl rfl rfl)
  have hlw := fun w2 (g : Below W.heap.size W w2) => g0.trans (g.mono g0.size)
  have HCF := Lib.hid hcf; have HSL := Lib.hid hsl; have HTN := Lib.hid htn; have HND := Lib.hid hnd; have HLW := Lib.hid hlw
  have RB := Lib.hid rB; have S0 := Lib.hid s0
  clear hcf hsl htn hnd hlw rA g0 hW rB s0
  go_cut [5] from 6 to 14 (fun p wx => ∃ q : Nat, p = .pointer (some ⟨q, 0, none⟩) ∧ W.heap.size ≤ q ∧ Hid (Row wx q #[.int .i64 s1, .int .i64 s2, .int .i64 s3] 29 ∧ Below W.heap.size W wx))
  case first =>
    have l1 := fun w9 (g : Below W.heap.size W w9) => load_mid (HCF.out w9 g) Try.underlying25 rfl config_len'
    have l4 := fun w9 (g : Below W.heap.size W w9) => load_plain Try.underlying26 rfl (HSL.out w9 g)
    have l7 := fun w9 (g : Below W.heap.size W w9) => load_mid (HND.out w9 g) Try.underlying29 rfl vec_len
    have L1 := Lib.hid l1; have L4 := Lib.hid l4; have L7 := Lib.hid l7
    have D0 := Lib.hid (show Below W.heap.size W W.drew from below_drewN (Below.refl _ _) 1)
    clear l1 l4 l7
    refine wp_region_barr (fun w9 => Below W.heap.size W w9) 10 (by kernel_rfl) ?_
    generalize W.drew = WD at D0 ⊢
    refine barr_take (v := ?v0) 0 rfl (by decide) (by kernel_rfl) (by kernel_rfl) (by kernel_rfl) (fun _ _ _ h => h) (.inl ⟨by rfl, ?hy0⟩) (.inr D0.out) ?rest0
    case hy0 => intro w hSw; (try go_simp); (try with_reducible rfl)
    try simp only [Act.put, List.setIfInBounds_toArray, List.set_cons_zero, List.set_cons_succ]
    refine barr_load (v := _) 1 rfl (by decide) (by kernel_rfl) (by kernel_rfl) (by kernel_rfl) (by kernel_rfl) (by kernel_rfl) (fun _ _ _ h => h) (yields_load 25 _ _ rfl (by kernel_rfl) _ rfl (fun w9 g9 => L1.out w9 g9)) D0.out ?_
    try simp only [Act.put, List.setIfInBounds_toArray, List.set_cons_zero, List.set_cons_succ]
    refine barr_take (v := ?v2) 2 rfl (by decide) (by kernel_rfl) (by kernel_rfl) (by kernel_rfl) (fun _ _ _ h => h) (.inl ⟨by rfl, ?hy2⟩) (.inr D0.out) ?rest2
    case hy2 => intro w hSw; (try go_simp); (try with_reducible rfl)
    try simp only [Act.put, List.setIfInBounds_toArray, List.set_cons_zero, List.set_cons_succ]
    refine barr_take (v := ?v3) 3 rfl (by decide) (by kernel_rfl) (by kernel_rfl) (by kernel_rfl) (fun _ _ _ h => h) (.inl ⟨by rfl, ?hy3⟩) (.inr D0.out) ?rest3
    case hy3 => intro w hSw; (try go_simp); (try with_reducible rfl)
    try simp only [Act.put, List.setIfInBounds_toArray, List.set_cons_zero, List.set_cons_succ]
    refine barr_load (v := _) 4 rfl (by decide) (by kernel_rfl) (by kernel_rfl) (by kernel_rfl) (by kernel_rfl) (by kernel_rfl) (fun _ _ _ h => h) (yields_load 26 _ _ rfl (by kernel_rfl) _ rfl (fun w9 g9 => L4.out w9 g9)) D0.out ?_
    try simp only [Act.put, List.setIfInBounds_toArray, List.set_cons_zero, List.set_cons_succ]
    refine barr_take (v := ?v6) 6 rfl (by decide) (by kernel_rfl) (by kernel_rfl) (by kernel_rfl) (fun _ _ _ h => h) (.inl ⟨by rfl, ?hy6⟩) (.inr D0.out) ?rest6
    case hy6 => intro w hSw; (try go_simp); (try with_reducible rfl)
    try simp only [Act.put, List.setIfInBounds_toArray, List.set_cons_zero, List.set_cons_succ]
    refine barr_load (v := _) 7 rfl (by decide) (by kernel_rfl) (by kernel_rfl) (by kernel_rfl) (by kernel_rfl) (by kernel_rfl) (fun _ _ _ h => h) (yields_load 29 _ _ rfl (by kernel_rfl) _ rfl (fun w9 g9 => L7.out w9 g9)) D0.out ?_
    try simp only [Act.put, List.setIfInBounds_toArray, List.set_cons_zero, List.set_cons_succ]
    refine barr_two 5 9 rfl rfl (by kernel_rfl) ?_ ?_
    · intro K hK
      go_simp
      refine (HSM.out _ (HLW.out _ D0.out)).mono ?_
      rintro er v1 ⟨rfl, b1⟩
      have D1 := Lib.hid (D0.out.trans (b1.mono D0.out.size))
      clear b1
      refine hK.out _ _ (.inr D1.out) ?_
      clear hK K
      try simp only [Act.put, List.setIfInBounds_toArray, List.set_cons_zero, List.set_cons_succ]
      refine barr_two 8 9 rfl rfl (by kernel_rfl) ?_ ?_
      · intro K hK
        go_simp
        refine (HAD.out _).mono ?_
        rintro er v2 ⟨rfl, b2⟩
        have D2 := Lib.hid (D1.out.trans (b2.mono D1.out.size))
        clear b2
        refine hK.out _ _ (.inr D2.out) ?_
        clear hK K
        try simp only [Act.put, List.setIfInBounds_toArray, List.set_cons_zero, List.set_cons_succ]
        refine barr_step 9 rfl (by kernel_rfl) ?_
        intro K hK
        have d9 := D2.out.alloc D2.out.size (.cells #[.int .i64 0, .int .i64 0, .int .i64 0] 29)
        have r9 := Row.new v2 #[.int .i64 0, .int .i64 0, .int .i64 0] 29
        have lq := D2.out.size
        go_simp
        refine hK.out _ _ (.inr d9) ?_
        clear hK K
        obtain ⟨v3, hv⟩ : ∃ v, v2.alloc (.cells #[.int .i64 0, .int .i64 0, .int .i64 0] 29) = v := ⟨_, rfl⟩
        obtain ⟨q, hq⟩ : ∃ v, v2.heap.size = v := ⟨_, rfl⟩
        rw [hv] at d9 r9 ⊢
        rw [hq] at r9 lq ⊢
        have D3 := Lib.hid d9; have R3 := Lib.hid r9; have LQ := Lib.hid lq
        clear d9 r9 lq hv hq
        try simp only [Act.put, List.setIfInBounds_toArray, List.set_cons_zero, List.set_cons_succ]
        refine barr_step 10 rfl (by kernel_rfl) ?_
        intro K hK
        refine step_store_row rfl 29 _ _ rfl q #[.int .i64 s1, .int .i64 s2, .int .i64 s3] rfl rfl _ _ R3.out vec_len rfl (one_cells _ _ _) ?_
        refine hK.out _ _ (.inl (by kernel_rfl)) ?_
        clear hK K
        simp only [Act.put]
        have FIN := Lib.hid (And.intro (R3.out.setRow #[.int .i64 s1, .int .i64 s2, .int .i64 s3]) (below_setRow3 D3.out LQ.out #[.int .i64 s1, .int .i64 s2, .int .i64 s3]))
        refine barr_done (by kernel_rfl) ?_ _
        go_wp2_with fail
        go_meet
        exact ⟨q, rfl, LQ.out, FIN⟩
      · intro K hK
        have d9 := D1.out.alloc D1.out.size (.cells #[.int .i64 0, .int .i64 0, .int .i64 0] 29)
        have r9 := Row.new v1 #[.int .i64 0, .int .i64 0, .int .i64 0] 29
        have lq := D1.out.size
        go_simp
        refine hK.out _ _ (.inr d9) ?_
        clear hK K
        obtain ⟨v2, hv⟩ : ∃ v, v1.alloc (.cells #[.int .i64 0, .int .i64 0, .int .i64 0] 29) = v := ⟨_, rfl⟩
        obtain ⟨q, hq⟩ : ∃ v, v1.heap.size = v := ⟨_, rfl⟩
        rw [hv] at d9 r9 ⊢
        rw [hq] at r9 lq ⊢
        have D2 := Lib.hid d9; have R2 := Lib.hid r9; have LQ := Lib.hid lq
        clear d9 r9 lq hv hq
        try simp only [Act.put, List.setIfInBounds_toArray, List.set_cons_zero, List.set_cons_succ]
        refine barr_step 8 rfl (by kernel_rfl) ?_
        intro K hK
        go_simp
        refine (HAD.out _).mono ?_
        rintro er v3 ⟨rfl, b3⟩
        have D3 := Lib.hid (D2.out.trans (b3.mono D2.out.size))
        have R3 := Lib.hid (R2.out.under b3)
        clear b3
        refine hK.out _ _ (.inr D3.out) ?_
        clear hK K
        try simp only [Act.put, List.setIfInBounds_toArray, List.set_cons_zero, List.set_cons_succ]
        refine barr_step 10 rfl (by kernel_rfl) ?_
        intro K hK
        refine step_store_row rfl 29 _ _ rfl q #[.int .i64 s1, .int .i64 s2, .int .i64 s3] rfl rfl _ _ R3.out vec_len rfl (one_cells _ _ _) ?_
        refine hK.out _ _ (.inl (by kernel_rfl)) ?_
        clear hK K
        simp only [Act.put]
        have FIN := Lib.hid (And.intro (R3.out.setRow #[.int .i64 s1, .int .i64 s2, .int .i64 s3]) (below_setRow3 D3.out LQ.out #[.int .i64 s1, .int .i64 s2, .int .i64 s3]))
        refine barr_done (by kernel_rfl) ?_ _
        go_wp2_with fail
        go_meet
        exact ⟨q, rfl, LQ.out, FIN⟩
    · intro K hK
      have d9 := D0.out.alloc D0.out.size (.cells #[.int .i64 0, .int .i64 0, .int .i64 0] 29)
      have r9 := Row.new WD #[.int .i64 0, .int .i64 0, .int .i64 0] 29
      have lq := D0.out.size
      go_simp
      refine hK.out _ _ (.inr d9) ?_
      clear hK K
      obtain ⟨v1, hv⟩ : ∃ v, WD.alloc (.cells #[.int .i64 0, .int .i64 0, .int .i64 0] 29) = v := ⟨_, rfl⟩
      obtain ⟨q, hq⟩ : ∃ v, WD.heap.size = v := ⟨_, rfl⟩
      rw [hv] at d9 r9 ⊢
      rw [hq] at r9 lq ⊢
      have D1 := Lib.hid d9; have R1 := Lib.hid r9; have LQ := Lib.hid lq
      clear d9 r9 lq hv hq
      try simp only [Act.put, List.setIfInBounds_toArray, List.set_cons_zero, List.set_cons_succ]
      refine barr_step 5 rfl (by kernel_rfl) ?_
      intro K hK
      go_simp
      refine (HSM.out _ (HLW.out _ D1.out)).mono ?_
      rintro er v2 ⟨rfl, b2⟩
      have D2 := Lib.hid (D1.out.trans (b2.mono D1.out.size))
      have R2 := Lib.hid (R1.out.under b2)
      clear b2
      refine hK.out _ _ (.inr D2.out) ?_
      clear hK K
      try simp only [Act.put, List.setIfInBounds_toArray, List.set_cons_zero, List.set_cons_succ]
      refine barr_step 8 rfl (by kernel_rfl) ?_
      intro K hK
      go_simp
      refine (HAD.out _).mono ?_
      rintro er v3 ⟨rfl, b3⟩
      have D3 := Lib.hid (D2.out.trans (b3.mono D2.out.size))
      have R3 := Lib.hid (R2.out.under b3)
      clear b3
      refine hK.out _ _ (.inr D3.out) ?_
      clear hK K
      try simp only [Act.put, List.setIfInBounds_toArray, List.set_cons_zero, List.set_cons_succ]
      refine barr_step 10 rfl (by kernel_rfl) ?_
      intro K hK
      refine step_store_row rfl 29 _ _ rfl q #[.int .i64 s1, .int .i64 s2, .int .i64 s3] rfl rfl _ _ R3.out vec_len rfl (one_cells _ _ _) ?_
      refine hK.out _ _ (.inl (by kernel_rfl)) ?_
      clear hK K
      simp only [Act.put]
      have FIN := Lib.hid (And.intro (R3.out.setRow #[.int .i64 s1, .int .i64 s2, .int .i64 s3]) (below_setRow3 D3.out LQ.out #[.int .i64 s1, .int .i64 s2, .int .i64 s3]))
      refine barr_done (by kernel_rfl) ?_ _
      go_wp2_with fail
      go_meet
      exact ⟨q, rfl, LQ.out, FIN⟩
  obtain ⟨q, rfl, hq, hc⟩ := hcut
  have g3 := hc.out.2
  have r3 := hc.out.1
  have hcf := fun w3 (g : Below wc.heap.size wc w3) => HCF.out w3 (g3.trans (g.mono g3.size))
  have hsl := fun w3 (g : Below wc.heap.size wc w3) => HSL.out w3 (g3.trans (g.mono g3.size))
  have htn := fun w3 (g : Below wc.heap.size wc w3) => HTN.out w3 (g3.trans (g.mono g3.size))
  have hlw := fun w3 (g : Below wc.heap.size wc w3) => HLW.out w3 (g3.trans (g.mono g3.size))
  have hus := fun w3 (g : Below wc.heap.size wc w3) => (show ∃ t fr, w3.heap[q]? = some (.cells #[.int .i64 s1, .int .i64 s2, .int .i64 s3] t fr) from ⟨_, _, r3.under g⟩)
  have HCF3 := Lib.hid hcf; have HSL3 := Lib.hid hsl; have HTN3 := Lib.hid htn; have HLW3 := Lib.hid hlw; have HUS3 := Lib.hid hus; have R3 := Lib.hid (RB.out.under g3)
  clear HCF HSL HTN HND HLW hcf hsl htn hlw hus g3 r3 RB HSM HAD hq hc
  go_wp2_with fail
  refine region_quiet_tail 10 (fun w2 => Below wc.heap.size wc w2) (by kernel_rfl) (by kernel_rfl) (below_drewN (Below.refl _ _) 1) ?_
  simp only [List.take_succ_cons, List.take_zero, List.drop_succ_cons, List.drop_zero]
  repeat (first
    | (go_big_quiet_skip)
    | (refine quiet_row _ _ 29 _ _ HUS3.out rfl rfl ?_ Try.underlying29 rfl ?_ ?_; (focus kernel_rfl); (focus kernel_rfl); simp only [Act.put, List.setIfInBounds_toArray, List.set_cons_zero, List.set_cons_succ])
    | (refine quiet_cell _ _ 26 _ _ HSL3.out rfl rfl ?_ Try.underlying26 rfl ?_; (focus kernel_rfl); simp only [Act.put, List.setIfInBounds_toArray, List.set_cons_zero, List.set_cons_succ])
    | (refine quiet_cell _ _ 3 _ _ HTN3.out rfl rfl ?_ Try.underlying3 rfl ?_; (focus kernel_rfl); simp only [Act.put, List.setIfInBounds_toArray, List.set_cons_zero, List.set_cons_succ])
    | (refine quiet_mid w.heap.size 0 _ 25 _ _ HCF3.out rfl rfl ?_ Try.underlying25 rfl ?_ ?_; (focus kernel_rfl); (focus kernel_rfl); simp only [Act.put, List.setIfInBounds_toArray, List.set_cons_zero, List.set_cons_succ])
    | (go_big_quiet_step ((intro g2; first
      | (with_reducible rfl)
      | (with_reducible exact quiet_below g2 (HKP.out _ (HLW3.out _ g2)))
      | (with_reducible exact quiet_below g2 (HAD2.out _))))))
  refine wpQuiet_nil ?_
  intro w4 g4
  have R4 := Lib.hid (R3.out.under g4); have L4 := Lib.hid (HLW3.out w4 g4)
  clear g4 HCF3 HSL3 HTN3 HLW3 HUS3 HKP HAD2 R3
  go_wp2_with (first | (refine wpList_store_row rfl 29 _ _ rfl (w.heap.size + 1) #[.int .i64 r1, .int .i64 r2, .int .i64 r3] rfl rfl _ _ R4.out vec_len rfl (one_cells _ _ _) ?_) | fail)
  refine bodyPost_ret (results_cell_row (p := 4) (by kernel_rfl) _ _ (w.heap.size + 1) _ _ _ _ rfl (R4.out.setRow _) Try.underlying29 rfl vec_len) rfl ?_
  exact ⟨rfl, below_setRow3 L4.out (by omega) _⟩

set_option maxHeartbeats 1000000 in
set_option maxRecDepth 8000 in
theorem kMostBor (c : Cmd) (vn vh : Value) (used : List V3) (ao : Option Addr) (cap ub uo : Nat) (t : Int) (need : V3) (n : Int) (w : World) (h12 : c.nodes.length ≤ 12) (h : CmAt c vn vh w) (hU : Sl V3.c 26 3 w ao cap ub uo used) (h0 : 0 ≤ n) (h1 : n < c.nodes.length) :
    Calls Try.prog 35 #[.agg #[vn, vh, .int .i64 c.half, .int .i64 c.age, .slice ao used.length cap, .int .i64 t, .int .i64 need.x, .int .i64 need.y, .int .i64 need.z], .int .i64 n] w (RetBelow (.agg (Qt.add (Qt.nominal c.nodes n) (Qt.nd c.nodes n).bor).c) w) := by
  have hnm := fun w2 (g : Below w.heap.size w w2) => kClaimNom c vn vh used ao cap ub uo t need n w2 h12 (h.kept g) (hU.kept g)
  obtain ⟨q, hq⟩ : ∃ x, c.nodes[n.toNat]? = some x := ⟨_, List.getElem?_eq_getElem (by omega)⟩
  have hb : Qt.nd c.nodes n = q := by unfold Qt.nd; rw [List.getD_eq_getElem?_getD, hq]; rfl
  rw [hb]
  obtain ⟨u, hu⟩ : ∃ u, Qt.nominal c.nodes n = u := ⟨_, rfl⟩
  obtain ⟨k, hk⟩ : ∃ u, q.bor = u := ⟨_, rfl⟩
  have had := fun w2 => kAdd3 u k w2
  obtain ⟨s, hs⟩ : ∃ s, Qt.add u k = s := ⟨_, rfl⟩
  rw [hu, hk, hs]
  rw [hs] at had
  simp only [hu] at hnm
  have hbo := fun w2 (g : Below w.heap.size w w2) => (h.kept g)
  clear hu hs hb
  obtain ⟨u1, u2, u3⟩ := u
  obtain ⟨k1, k2, k3⟩ := k
  obtain ⟨s1, s2, s3⟩ := s
  simp only [V3.c] at *
  obtain ⟨x, y, z⟩ := need
  obtain ⟨kind, ns, hosts, half, age, gg, k0⟩ := c
  simp only at *
  obtain ⟨an, cn, nb, no, ah, ch, hb, ho, rfl, rfl, hN, _⟩ := h
  simp only at *
  have hNi := hN.idx
  obtain ⟨ul, hul⟩ : ∃ k, used.length = k := ⟨_, rfl⟩
  obtain ⟨ln, hln⟩ : ∃ k, ns.length = k := ⟨_, rfl⟩
  obtain ⟨lh, hlh⟩ : ∃ k, hosts.length = k := ⟨_, rfl⟩
  simp only [hul, hln, hlh] at *
  have rA := (Row.new w #[.slice an ln cn, .slice ah lh ch, .int .i64 half, .int .i64 age, .slice ao ul cap, .int .i64 t, .int .i64 x, .int .i64 y, .int .i64 z] 51).under ((Below.refl _ _).alloc (Nat.le_refl _) (.cells #[.int .i64 0, .int .i64 0, .int .i64 0] 29))
  have rB := Row.new (w.alloc (.cells #[.slice an ln cn, .slice ah lh ch, .int .i64 half, .int .i64 age, .slice ao ul cap, .int .i64 t, .int .i64 x, .int .i64 y, .int .i64 z] 51)) #[.int .i64 0, .int .i64 0, .int .i64 0] 29
  have g0 := two_below w (.cells #[.slice an ln cn, .slice ah lh ch, .int .i64 half, .int .i64 age, .slice ao ul cap, .int .i64 t, .int .i64 x, .int .i64 y, .int .i64 z] 51) (.cells #[.int .i64 0, .int .i64 0, .int .i64 0] 29)
  rw [World.size_alloc] at rB
  have s0 : ((w.alloc (.cells #[.slice an ln cn, .slice ah lh ch, .int .i64 half, .int .i64 age, .slice ao ul cap, .int .i64 t, .int .i64 x, .int .i64 y, .int .i64 z] 51)).alloc (.cells #[.int .i64 0, .int .i64 0, .int .i64 0] 29)).heap.size = w.heap.size + 1 + 1 := by rw [World.size_alloc, World.size_alloc]
  have hi := hNi n.toNat (by omega)
  rw [show ((n.toNat : Nat) : Int) = n by omega] at hi
  have hbr := fun w2 (g : Below w.heap.size w w2) => bor_range ((hN.kept g).at_ n.toNat q hq)
  simp only [hk] at hbr
  obtain ⟨oi, hoi⟩ : ∃ k, no + n.toNat * 11 = k := ⟨_, rfl⟩
  simp only [hoi] at hi hbr
  have S0 := Lib.hid s0; have RA := Lib.hid rA; have RB := Lib.hid rB; have G0 := Lib.hid g0; have HNM := Lib.hid hnm; have HAD := Lib.hid had; have HI := Lib.hid hi; have HBR := Lib.hid hbr
  clear s0 rA rB g0 hnm had hN hNi hU h12 hul hln hlh hi hbr hbo hoi hq hk h1
  go_enter Try.func35, Try.ntmps35
  go_wp2_with fail
  have s0 := S0.out; have rA := RA.out; have rB := RB.out; have g0 := G0.out
  clear S0 RA RB G0
  obtain ⟨W, hW⟩ : ∃ V, (w.alloc (.cells #[.slice an ln cn, .slice ah lh ch, .int .i64 half, .int .i64 age, .slice ao ul cap, .int .i64 t, .int .i64 x, .int .i64 y, .int .i64 z] 51)).alloc (.cells #[.int .i64 0, .int .i64 0, .int .i64 0] 29) = V := ⟨_, rfl⟩
  rw [hW] at rA rB g0 s0 ⊢
  have hcf := fun w2 (g : Below W.heap.size W w2) => row_range (rA.under g) 0 [.slice an ln cn, .slice ah lh ch, .int .i64 half, .int .i64 age] (cl_four rfl rfl rfl rfl)
  have hsl := fun w2 (g : Below W.heap.size W w2) => (show w2.cell? ⟨w.heap.size, 4, none⟩ = some (.slice ao ul cap) from (rA.under g).at_ 4)
  have htn := fun w2 (g : Below W.heap.size W w2) => (show w2.cell? ⟨w.heap.size, 5, none⟩ = some (.int .i64 t) from (rA.under g).at_ 5)
  have hnd := fun w2 (g : Below W.heap.size W w2) => row_range (rA.under g) 6 [.int .i64 x, .int .i64 y, .int .i64 z] (cl_three rfl rfl rfl)
  have hlw := fun w2 (g : Below W.heap.size W w2) => g0.trans (g.mono g0.size)
  have hrw := fun w2 (g : Below W.heap.size W w2) => (show ∃ ty fr, w2.heap[w.heap.size]? = some (.cells #[.slice an ln cn, .slice ah lh ch, .int .i64 half, .int .i64 age, .slice ao ul cap, .int .i64 t, .int .i64 x, .int .i64 y, .int .i64 z] ty fr) from ⟨_, _, rA.under g⟩)
  have hbx := fun w2 (g : Below W.heap.size W w2) => HBR.out w2 (hlw w2 g)
  have hn0 := fun w2 (g : Below W.heap.size W w2) => (show w2.cell? ⟨w.heap.size, 0, none⟩ = some (.slice an ln cn) from (rA.under g).at_ 0)
  have HRW := Lib.hid hrw; have HBX := Lib.hid hbx; have HN0 := Lib.hid hn0; have HLW := Lib.hid hlw
  have RB := Lib.hid rB
  clear hcf hsl htn hnd hlw rA g0 hW rB hrw hbx hn0 HBR s0
  refine region_quiet_tail 11 (fun w2 => Below W.heap.size W w2) (by kernel_rfl) (by kernel_rfl) (below_drewN (Below.refl _ _) 1) ?_
  simp only [List.take_succ_cons, List.take_zero, List.drop_succ_cons, List.drop_zero]
  repeat (first
    | (go_big_quiet_skip)
    | (refine quiet_row _ _ 51 _ _ HRW.out rfl rfl ?_ Try.underlying51 rfl ?_ ?_; (focus kernel_rfl); (focus kernel_rfl); simp only [Act.put, List.setIfInBounds_toArray, List.set_cons_zero, List.set_cons_succ])
    | (refine quiet_cell _ _ 22 _ _ HN0.out rfl rfl ?_ Try.underlying22 rfl ?_; (focus kernel_rfl); simp only [Act.put, List.setIfInBounds_toArray, List.set_cons_zero, List.set_cons_succ])
    | (with_reducible refine quiet_index 22 _ _ _ _ _ (fun w0 => HI.out w0) rfl rfl rfl ?_ ?_; (focus kernel_rfl); simp only [Act.put, List.setIfInBounds_toArray, List.set_cons_zero, List.set_cons_succ])
    | (refine quiet_mid nb (oi + 5) _ 29 _ _ HBX.out rfl rfl ?_ Try.underlying29 rfl ?_ ?_; (focus kernel_rfl); (focus kernel_rfl); simp only [Act.put, List.setIfInBounds_toArray, List.set_cons_zero, List.set_cons_succ])
    | (go_big_quiet_step ((intro g2; first
      | (with_reducible rfl)
      | (with_reducible exact quiet_below g2 (HNM.out _ (HLW.out _ g2)))
      | (with_reducible exact quiet_below g2 (HAD.out _))))))
  refine wpQuiet_nil ?_
  intro w2 g2
  have R2 := Lib.hid (RB.out.under g2); have L2 := Lib.hid (HLW.out w2 g2)
  clear g2 HRW HBX HN0 HLW HNM HAD RB
  go_wp2_with (first | (refine wpList_store_row rfl 29 _ _ rfl (w.heap.size + 1) #[.int .i64 s1, .int .i64 s2, .int .i64 s3] rfl rfl _ _ R2.out vec_len rfl (one_cells _ _ _) ?_) | fail)
  refine bodyPost_ret (results_cell_row (p := 4) (by kernel_rfl) _ _ (w.heap.size + 1) _ _ _ _ rfl (R2.out.setRow _) Try.underlying29 rfl vec_len) rfl ?_
  exact ⟨rfl, below_setRow3 L2.out (by omega) _⟩

end Go.Proofs.Ytkakgjmajplgmaa
namespace Go.Proofs.Ytkakgjmajplgmaa
open Go.RowKit
set_option linter.unusedVariables false

/-- A rule: its three functions, what they answer. -/
structure Ru where
  on : Nat
  use : Nat
  most : Nat
  pon : Int → Bool
  puse : Int → V3
  pmost : Int → V3
def Ru.c (r : Ru) : Array Value := #[.func (.func r.on) #[] #[], .func (.func r.use) #[] #[], .func (.func r.most) #[] #[]]
def Ru.ok (r : Ru) (n : Int) : Bool := !(r.pon n && !Cf.fits (r.puse n) (r.pmost n))
structure RuOk (r : Ru) (cl : Array Value) (L : List Int) (w : World) : Prop where
  eon : ∀ args w, (callFunc r.on args).run Try.prog w = .ok (.enter r.on args) w
  euse : ∀ args w, (callFunc r.use args).run Try.prog w = .ok (.enter r.use args) w
  emost : ∀ args w, (callFunc r.most args).run Try.prog w = .ok (.enter r.most args) w
  con : ∀ n ∈ L, ∀ w2, Below w.heap.size w w2 → Calls Try.prog r.on #[.agg cl, .int .i64 n] w2 (RetBelow (.bool (r.pon n)) w2)
  cuse : ∀ n ∈ L, r.pon n = true → ∀ w2, Below w.heap.size w w2 → Calls Try.prog r.use #[.agg cl, .int .i64 n] w2 (RetBelow (.agg (r.puse n).c) w2)
  cmost : ∀ n ∈ L, r.pon n = true → ∀ w2, Below w.heap.size w w2 → Calls Try.prog r.most #[.agg cl, .int .i64 n] w2 (RetBelow (.agg (r.pmost n).c) w2)

theorem three_funcs (a b c : Nat) : (#[Value.func (.func a) #[] #[], .func (.func b) #[] #[], .func (.func c) #[] #[]].all (·.oneCell')) = true := by simp [Value.oneCell']
theorem rule_len : (Try.prog.info? 56).map (·.size) = some 3 := by kernel_rfl

set_option maxHeartbeats 2000000 in
set_option maxRecDepth 8000 in
theorem kKeeps (c : Cmd) (vn vh : Value) (used : List V3) (ao : Option Addr) (cap ub uo : Nat) (t : Int) (need : V3) (rules : List Ru) (ra : Option Addr) (rcap rb ro : Nat) (w : World) (h12 : c.nodes.length ≤ 12) (h : CmAt c vn vh w) (hU : Sl V3.c 26 3 w ao cap ub uo used) (ht : In64 t)
    (hR : Sl Ru.c 63 3 w ra rcap rb ro rules) (hok : ∀ r ∈ rules, RuOk r #[vn, vh, .int .i64 c.half, .int .i64 c.age, .slice ao used.length cap, .int .i64 t, .int .i64 need.x, .int .i64 need.y, .int .i64 need.z] (Qt.path c.nodes t) w) :
    Calls Try.prog 20 #[.agg #[vn, vh, .int .i64 c.half, .int .i64 c.age, .slice ao used.length cap, .int .i64 t, .int .i64 need.x, .int .i64 need.y, .int .i64 need.z], .slice ra rules.length rcap] w
      (RetBelow (.bool (Cf.leaf c.nodes t && (Qt.path c.nodes t).all fun n => rules.all fun r => r.ok n)) w) := by
  have hlf := fun w2 (g : Below w.heap.size w w2) => kLeaf c vn vh t w2 ht (by omega) (h.kept g)
  obtain ⟨x, y, z⟩ := need
  obtain ⟨an, cn, nb, no, ah, ch, hb, ho, rfl, rfl, hN, _⟩ := h
  have hpt := fun w2 (g : Below w.heap.size w w2) => qPath c.nodes an cn nb no ah c.hosts.length ch c.half c.age t w2 (hN.kept g) (by omega)
  obtain ⟨P, hP⟩ : ∃ P, Qt.path c.nodes t = P := ⟨_, rfl⟩
  obtain ⟨L, hL⟩ : ∃ L, Cf.leaf c.nodes t = L := ⟨_, rfl⟩
  rw [hP, hL]
  rw [hP] at hok
  simp only [hP] at hpt
  simp only [hL] at hlf
  clear hP hL
  obtain ⟨F, hF⟩ : ∃ F, (P.all fun n => rules.all fun r => r.ok n) = F := ⟨_, rfl⟩
  rw [hF]
  have hno : ∀ (j : Nat) m (k : Nat) r, P[j]? = some m → rules[k]? = some r → r.ok m = false → F = false := fun j m k r hm hr e => by
    rw [← hF, List.all_eq_false]
    refine ⟨m, List.mem_of_getElem? hm, ?_⟩
    rw [Bool.not_eq_true, List.all_eq_false]
    exact ⟨r, List.mem_of_getElem? hr, by rw [e]; simp⟩
  have hyes : Upto (fun m => rules.all fun r => r.ok m) P (P.length : Int) → F = true := fun u => by rw [← hF]; exact u.all (Int.le_refl _)
  have hin : ∀ (m : Int) (k : Int), (rules.length : Int) ≤ k → Upto (fun r => Ru.ok r m) rules k → (rules.all fun r => r.ok m) = true := fun m k hk u => u.all hk
  clear hF
  obtain ⟨kind, ns, hosts, half, age, gg, k0⟩ := c
  simp only [Cmd.f] at *
  have hRi := hR.idx
  have hget := fun (k : Nat) (hk : k < rules.length) => (show ∃ r, rules[k]? = some r from ⟨_, List.getElem?_eq_getElem hk⟩)
  have r63 := hR.small
  obtain ⟨rl, hrl⟩ : ∃ k, rules.length = k := ⟨_, rfl⟩
  obtain ⟨ul, hul⟩ : ∃ k, used.length = k := ⟨_, rfl⟩
  obtain ⟨ln, hln⟩ : ∃ k, ns.length = k := ⟨_, rfl⟩
  obtain ⟨lh, hlh⟩ : ∃ k, hosts.length = k := ⟨_, rfl⟩
  simp only [hul, hln, hlh, hrl] at *
  obtain ⟨zr, hzr⟩ : ∃ z : Int, (rl : Int) = z := ⟨_, rfl⟩
  rw [hzr] at hin
  have g0 := (Below.refl w.heap.size w).alloc (Nat.le_refl _) (.cells #[.slice an ln cn, .slice ah lh ch, .int .i64 half, .int .i64 age, .slice ao ul cap, .int .i64 t, .int .i64 x, .int .i64 y, .int .i64 z] 51)
  have r0 := Row.new w #[.slice an ln cn, .slice ah lh ch, .int .i64 half, .int .i64 age, .slice ao ul cap, .int .i64 t, .int .i64 x, .int .i64 y, .int .i64 z] 51
  have rf0 := row_range r0 0 [.slice an ln cn, .slice ah lh ch, .int .i64 half, .int .i64 age] (cl_four rfl rfl rfl rfl)
  have HLF := Lib.hid hlf; have HPT := Lib.hid hpt; have HNO := Lib.hid hno; have HY := Lib.hid hyes; have HIN := Lib.hid hin; have HRI := Lib.hid hRi; have HR := Lib.hid hR; have HOK := Lib.hid hok; have G0 := Lib.hid g0; have R0 := Lib.hid r0; have RF0 := Lib.hid rf0; have HGET := Lib.hid hget; have HZR := Lib.hid hzr
  clear hlf hpt hno hyes hin hRi hR hok g0 r0 rf0 hget hrl hul hln hlh hN hU h12 ht
  go_enter Try.func20, Try.ntmps20
  go_wp2_with (first | (refine wpList_load_mid rfl 25 _ rfl w.heap.size 0 rfl _ _ RF0.out Try.underlying25 rfl config_len' ?_) | fail)
  refine (HLF.out _ G0.out).mono ?_
  rintro er w1 ⟨rfl, b1⟩
  have r1 := R0.out.under b1
  have c5 : w1.cell? ⟨w.heap.size, 5, none⟩ = some (.int .i64 t) := r1.at_ 5
  have RF1 := Lib.hid (row_range r1 0 [.slice an ln cn, .slice ah lh ch, .int .i64 half, .int .i64 age] (cl_four rfl rfl rfl rfl))
  have G1 := Lib.hid (below_trans G0.out b1); have R1 := Lib.hid r1
  clear b1 r1 G0 R0 RF0 HLF
  cases L
  · clear c5
    go_wp2_with fail
    go_ret
    exact ⟨rfl, G1.out⟩
  rw [Bool.true_and]
  go_wp2_with (first | (refine wpList_load_mid rfl 25 _ rfl w.heap.size 0 rfl _ _ RF1.out Try.underlying25 rfl config_len' ?_) | fail)
  refine (HPT.out _ G1.out).mono ?_
  rintro er w2 ⟨pa, pc, pb, rfl, psl, b2⟩
  have hpi := psl.idx
  have p63 := psl.small
  have G2 := Lib.hid (below_trans G1.out b2); have R2 := Lib.hid (R1.out.under b2); have PSL := Lib.hid psl; have HPI := Lib.hid hpi
  clear psl hpi b2 G1 R1 RF1 HPT c5
  obtain ⟨pl, hpl⟩ : ∃ k, P.length = k := ⟨_, rfl⟩
  rw [hpl] at HPI HY p63 ⊢
  obtain ⟨zp, hzp⟩ : ∃ z : Int, (pl : Int) = z := ⟨_, rfl⟩
  have HPL := Lib.hid hpl; have HZP := Lib.hid hzp
  clear hpl
  go_wp2_with fail
  go_loopw [21] (fun i wr => ∃ (j : Int), i = .int .i64 j ∧ 0 ≤ j ∧ j ≤ zp ∧ Hid (Upto (fun m => rules.all fun r => r.ok m) P j ∧ Below w2.heap.size w2 wr)) (fun i _ => (zp - intOf i).toNat)
  case atStart => exact ⟨0, rfl, by omega, by omega, Upto.zero _ _, Below.refl _ _⟩
  case round =>
    obtain ⟨j, rfl, hj0, hjz, hd⟩ := hrel
    by_cases hlt : j < zp
    · obtain ⟨m, hm⟩ : ∃ m, P[j.toNat]? = some m := ⟨_, List.getElem?_eq_getElem (by have := HPL.out; have := HZP.out; omega)⟩
      have hi := HPI.out j.toNat (by omega)
      rw [show ((j.toNat : Nat) : Int) = j by omega] at hi
      have hc0 : wr.cell? ⟨pb, 0 + j.toNat * 1, none⟩ = some (.int .i64 m) := (PSL.out.kept hd.out.2).at_ j.toNat m hm 0 (.int .i64 m) rfl
      obtain ⟨oi, hoi⟩ : ∃ k, 0 + j.toNat * 1 = k := ⟨_, rfl⟩
      rw [hoi] at hc0
      simp only [hoi] at hi
      have HM := Lib.hid hm; have D := Lib.hid hd.out
      clear hm hoi hd
      go_wp2_with fail
      go_hide hQ
      clear hi hc0
      go_loopw [27] (fun i wr => ∃ (k : Int), i = .int .i64 k ∧ 0 ≤ k ∧ k ≤ zr ∧ Hid (Upto (fun r => Ru.ok r m) rules k ∧ Below w2.heap.size w2 wr)) (fun i _ => (zr - intOf i).toNat)
      case atStart => exact ⟨0, rfl, by omega, by omega, Upto.zero _ _, D.out.2⟩
      case round =>
        obtain ⟨k, rfl, hk0, hkz, hd⟩ := hrel
        by_cases hltk : k < zr
        · obtain ⟨r, hr⟩ := HGET.out k.toNat (by have := HZR.out; omega)
          have hii := HRI.out k.toNat (by have := HZR.out; omega)
          rw [show ((k.toNat : Nat) : Int) = k by omega] at hii
          have low := G2.out.trans (hd.out.2.mono G2.out.size)
          have hrr := (HR.out.kept low).at_ k.toNat r hr
          obtain ⟨oj, hoj⟩ : ∃ q, ro + k.toNat * 3 = q := ⟨_, rfl⟩
          rw [hoj] at hrr
          simp only [hoj] at hii
          have ok := HOK.out r (List.mem_of_getElem? hr)
          have hmP := List.mem_of_getElem? HM.out
          have bad := HNO.out j.toNat m k.toNat r HM.out hr
          have good := fun e => hd.out.1.succ hk0 hr e
          obtain ⟨fon, fuse, fmost, pon, puse, pmost⟩ := r
          have eon := ok.eon; have eus := ok.euse; have emo := ok.emost
          have con := ok.con m hmP; have cus := ok.cuse m hmP; have cmo := ok.cmost m hmP
          simp only [Ru.c, Ru.ok] at hrr bad good eon eus emo con cus cmo
          have g1 := below_setRow3 ((Below.refl wr.heap.size wr).alloc (Nat.le_refl _) (.cells #[.nilFunc, .nilFunc, .nilFunc] 56)) (Nat.le_refl _) #[.func (.func fon) #[] #[], .func (.func fuse) #[] #[], .func (.func fmost) #[] #[]]
          have rn0 := Row.new wr #[.nilFunc, .nilFunc, .nilFunc] 56
          have rn := rn0.setRow #[.func (.func fon) #[] #[], .func (.func fuse) #[] #[], .func (.func fmost) #[] #[]]
          have RN0 := Lib.hid rn0
          clear rn0
          have HRR := Lib.hid hrr; have BAD := Lib.hid bad; have GOOD := Lib.hid good; have EON := Lib.hid eon; have EUS := Lib.hid eus; have EMO := Lib.hid emo; have CON0 := Lib.hid con; have CUS0 := Lib.hid cus; have CMO0 := Lib.hid cmo; have LOW := Lib.hid low; have DD := Lib.hid hd.out.2
          clear hrr bad good eon eus emo con cus cmo ok hmP hr hoj low hd
          go_upto_region 9 with (first | (refine wpList_load_mid rfl 56 _ rfl rb oj rfl _ _ HRR.out Try.underlying56 rfl rule_len ?_) | (refine wpList_store_row rfl 56 _ _ rfl wr.heap.size #[.func (.func fon) #[] #[], .func (.func fuse) #[] #[], .func (.func fmost) #[] #[]] rfl rfl _ _ RN0.out rule_len rfl (three_funcs fon fuse fmost) ?_) | fail)
          obtain ⟨WW, hWW⟩ : ∃ W, (wr.alloc (.cells #[.nilFunc, .nilFunc, .nilFunc] 56)).setRow wr.heap.size #[.func (.func fon) #[] #[], .func (.func fuse) #[] #[], .func (.func fmost) #[] #[]] = W := ⟨_, rfl⟩
          rw [hWW] at g1 rn ⊢
          simp only [Act.put]
          have d1 := DD.out.trans (g1.mono DD.out.size)
          have l1 := LOW.out.trans (g1.mono LOW.out.size)
          have hf1 := fun w9 (g : Below WW.heap.size WW w9) => (show w9.cell? ⟨wr.heap.size, 0, none⟩ = some (.func (.func fon) #[] #[]) from (rn.under g).at_ 0)
          have hf2 := fun w9 (g : Below WW.heap.size WW w9) => (show w9.cell? ⟨wr.heap.size, 1, none⟩ = some (.func (.func fuse) #[] #[]) from (rn.under g).at_ 1)
          have hf3 := fun w9 (g : Below WW.heap.size WW w9) => (show w9.cell? ⟨wr.heap.size, 2, none⟩ = some (.func (.func fmost) #[] #[]) from (rn.under g).at_ 2)
          have hcr := fun w9 (g : Below WW.heap.size WW w9) => (show ∃ ty fr, w9.heap[w.heap.size]? = some (.cells #[.slice an ln cn, .slice ah lh ch, .int .i64 half, .int .i64 age, .slice ao ul cap, .int .i64 t, .int .i64 x, .int .i64 y, .int .i64 z] ty fr) from ⟨_, _, (R2.out.under d1).under g⟩)
          have l9 := fun w9 (g : Below WW.heap.size WW w9) => l1.trans (g.mono l1.size)
          have con := fun w9 (g : Below WW.heap.size WW w9) => CON0.out w9 (l9 w9 g)
          have HF1 := Lib.hid hf1; have HF2 := Lib.hid hf2; have HF3 := Lib.hid hf3; have HCR := Lib.hid hcr; have L9 := Lib.hid l9; have D1 := Lib.hid d1
          clear hf1 hf2 hf3 hcr l9 d1 l1 g1 rn RN0 hWW DD LOW CON0 HRR hii
          by_cases hon : pon m = true
          · have cus := fun w9 (g : Below WW.heap.size WW w9) => CUS0.out hon w9 (L9.out w9 g)
            have cmo := fun w9 (g : Below WW.heap.size WW w9) => CMO0.out hon w9 (L9.out w9 g)
            simp only [hon] at con
            have bad := BAD.out; have good := GOOD.out
            rw [hon] at bad good
            obtain ⟨pu, hpu⟩ : ∃ v, puse m = v := ⟨_, rfl⟩
            obtain ⟨pm, hpm⟩ : ∃ v, pmost m = v := ⟨_, rfl⟩
            rw [hpu, hpm] at bad good
            simp only [hpu] at cus
            simp only [hpm] at cmo
            have cov := fun w9 => kOver3 pu pm w9
            obtain ⟨fb, hfb⟩ : ∃ b, Cf.fits pu pm = b := ⟨_, rfl⟩
            rw [hfb] at bad good
            simp only [hfb] at cov
            obtain ⟨u1, u2, u3⟩ := pu
            obtain ⟨v1, v2, v3⟩ := pm
            simp only [V3.c] at cus cmo cov
            cases fb
            · have bad' := bad rfl
              subst bad'
              have CON := Lib.hid con; have CUS := Lib.hid cus; have CMO := Lib.hid cmo; have COV := Lib.hid cov
              clear con cus cmo cov hpu hpm hfb bad good hon BAD GOOD CUS0 CMO0
              refine region_quiet (fun w9 => Below WW.heap.size WW w9) (by kernel_rfl) (by kernel_rfl) (below_drewN (Below.refl _ _) 1) ?_
              repeat (first
                | (go_big_quiet_skip)
                | (refine quiet_cell _ _ 53 _ _ HF1.out rfl rfl ?_ Try.underlying53 rfl ?_; (focus kernel_rfl); simp only [Act.put, List.setIfInBounds_toArray, List.set_cons_zero, List.set_cons_succ])
                | (refine quiet_cell _ _ 54 _ _ HF2.out rfl rfl ?_ Try.underlying54 rfl ?_; (focus kernel_rfl); simp only [Act.put, List.setIfInBounds_toArray, List.set_cons_zero, List.set_cons_succ])
                | (refine quiet_cell _ _ 54 _ _ HF3.out rfl rfl ?_ Try.underlying54 rfl ?_; (focus kernel_rfl); simp only [Act.put, List.setIfInBounds_toArray, List.set_cons_zero, List.set_cons_succ])
                | (refine quiet_row _ _ 51 _ _ HCR.out rfl rfl ?_ Try.underlying51 rfl ?_ ?_; (focus kernel_rfl); (focus kernel_rfl); simp only [Act.put, List.setIfInBounds_toArray, List.set_cons_zero, List.set_cons_succ])
                | (refine quiet_callv fon _ _ _ _ _ (fun w9 g9 => quiet_below g9 (CON.out w9 g9)) EON.out rfl rfl (by simp only [List.map_toArray, List.map_cons, List.map_nil]; rfl) ?_ ?_; (focus kernel_rfl); simp only [Act.put, List.setIfInBounds_toArray, List.set_cons_zero, List.set_cons_succ])
                | (refine quiet_callv fuse _ _ _ _ _ (fun w9 g9 => quiet_below g9 (CUS.out w9 g9)) EUS.out rfl rfl (by simp only [List.map_toArray, List.map_cons, List.map_nil]; rfl) ?_ ?_; (focus kernel_rfl); simp only [Act.put, List.setIfInBounds_toArray, List.set_cons_zero, List.set_cons_succ])
                | (refine quiet_callv fmost _ _ _ _ _ (fun w9 g9 => quiet_below g9 (CMO.out w9 g9)) EMO.out rfl rfl (by simp only [List.map_toArray, List.map_cons, List.map_nil]; rfl) ?_ ?_; (focus kernel_rfl); simp only [Act.put, List.setIfInBounds_toArray, List.set_cons_zero, List.set_cons_succ])
                | (go_big_quiet_step ((intro g2; first
                  | (with_reducible rfl)
                  | (with_reducible exact quiet_below g2 (COV.out _))))))
              refine wpQuiet_nil ?_
              intro w9 g9
              have FIN := Lib.hid (D1.out.trans (g9.mono D1.out.size))
              clear g9 HF1 HF2 HF3 HCR CON CUS CMO COV D1
              subst hQ
              go_wp2_with fail
              go_ret
              exact ⟨rfl, G2.out.trans (FIN.out.mono G2.out.size)⟩
            · have NX := Lib.hid (good rfl)
              have CON := Lib.hid con; have CUS := Lib.hid cus; have CMO := Lib.hid cmo; have COV := Lib.hid cov
              clear con cus cmo cov hpu hpm hfb bad good hon BAD GOOD CUS0 CMO0
              refine region_quiet (fun w9 => Below WW.heap.size WW w9) (by kernel_rfl) (by kernel_rfl) (below_drewN (Below.refl _ _) 1) ?_
              repeat (first
                | (go_big_quiet_skip)
                | (refine quiet_cell _ _ 53 _ _ HF1.out rfl rfl ?_ Try.underlying53 rfl ?_; (focus kernel_rfl); simp only [Act.put, List.setIfInBounds_toArray, List.set_cons_zero, List.set_cons_succ])
                | (refine quiet_cell _ _ 54 _ _ HF2.out rfl rfl ?_ Try.underlying54 rfl ?_; (focus kernel_rfl); simp only [Act.put, List.setIfInBounds_toArray, List.set_cons_zero, List.set_cons_succ])
                | (refine quiet_cell _ _ 54 _ _ HF3.out rfl rfl ?_ Try.underlying54 rfl ?_; (focus kernel_rfl); simp only [Act.put, List.setIfInBounds_toArray, List.set_cons_zero, List.set_cons_succ])
                | (refine quiet_row _ _ 51 _ _ HCR.out rfl rfl ?_ Try.underlying51 rfl ?_ ?_; (focus kernel_rfl); (focus kernel_rfl); simp only [Act.put, List.setIfInBounds_toArray, List.set_cons_zero, List.set_cons_succ])
                | (refine quiet_callv fon _ _ _ _ _ (fun w9 g9 => quiet_below g9 (CON.out w9 g9)) EON.out rfl rfl (by simp only [List.map_toArray, List.map_cons, List.map_nil]; rfl) ?_ ?_; (focus kernel_rfl); simp only [Act.put, List.setIfInBounds_toArray, List.set_cons_zero, List.set_cons_succ])
                | (refine quiet_callv fuse _ _ _ _ _ (fun w9 g9 => quiet_below g9 (CUS.out w9 g9)) EUS.out rfl rfl (by simp only [List.map_toArray, List.map_cons, List.map_nil]; rfl) ?_ ?_; (focus kernel_rfl); simp only [Act.put, List.setIfInBounds_toArray, List.set_cons_zero, List.set_cons_succ])
                | (refine quiet_callv fmost _ _ _ _ _ (fun w9 g9 => quiet_below g9 (CMO.out w9 g9)) EMO.out rfl rfl (by simp only [List.map_toArray, List.map_cons, List.map_nil]; rfl) ?_ ?_; (focus kernel_rfl); simp only [Act.put, List.setIfInBounds_toArray, List.set_cons_zero, List.set_cons_succ])
                | (go_big_quiet_step ((intro g2; first
                  | (with_reducible rfl)
                  | (with_reducible exact quiet_below g2 (COV.out _))))))
              refine wpQuiet_nil ?_
              intro w9 g9
              have FIN := Lib.hid (D1.out.trans (g9.mono D1.out.size))
              clear g9 HF1 HF2 HF3 HCR CON CUS CMO COV D1
              go_wp2_with fail
              go_roundw
              case rel => exact ⟨k + 1, rfl, by omega, by omega, NX.out, FIN.out⟩
              case measure => simp [intOf]; omega
          · have hof : pon m = false := by simpa using hon
            have good := GOOD.out
            rw [hof] at good
            simp only [hof] at con
            have NX := Lib.hid (good rfl)
            have CON := Lib.hid con
            clear con good hon hof BAD GOOD CUS0 CMO0
            refine region_quiet (fun w9 => Below WW.heap.size WW w9) (by kernel_rfl) (by kernel_rfl) (below_drewN (Below.refl _ _) 1) ?_
            repeat (first
              | (go_big_quiet_skip)
              | (refine quiet_cell _ _ 53 _ _ HF1.out rfl rfl ?_ Try.underlying53 rfl ?_; (focus kernel_rfl); simp only [Act.put, List.setIfInBounds_toArray, List.set_cons_zero, List.set_cons_succ])
              | (refine quiet_cell _ _ 54 _ _ HF2.out rfl rfl ?_ Try.underlying54 rfl ?_; (focus kernel_rfl); simp only [Act.put, List.setIfInBounds_toArray, List.set_cons_zero, List.set_cons_succ])
              | (refine quiet_cell _ _ 54 _ _ HF3.out rfl rfl ?_ Try.underlying54 rfl ?_; (focus kernel_rfl); simp only [Act.put, List.setIfInBounds_toArray, List.set_cons_zero, List.set_cons_succ])
              | (refine quiet_row _ _ 51 _ _ HCR.out rfl rfl ?_ Try.underlying51 rfl ?_ ?_; (focus kernel_rfl); (focus kernel_rfl); simp only [Act.put, List.setIfInBounds_toArray, List.set_cons_zero, List.set_cons_succ])
              | (refine quiet_callv fon _ _ _ _ _ (fun w9 g9 => quiet_below g9 (CON.out w9 g9)) EON.out rfl rfl (by simp only [List.map_toArray, List.map_cons, List.map_nil]; rfl) ?_ ?_; (focus kernel_rfl); simp only [Act.put, List.setIfInBounds_toArray, List.set_cons_zero, List.set_cons_succ])
              | (refine quiet_callv fuse _ _ _ _ _ (fun w9 g9 => quiet_below g9 (CUS.out w9 g9)) EUS.out rfl rfl (by simp only [List.map_toArray, List.map_cons, List.map_nil]; rfl) ?_ ?_; (focus kernel_rfl); simp only [Act.put, List.setIfInBounds_toArray, List.set_cons_zero, List.set_cons_succ])
              | (refine quiet_callv fmost _ _ _ _ _ (fun w9 g9 => quiet_below g9 (CMO.out w9 g9)) EMO.out rfl rfl (by simp only [List.map_toArray, List.map_cons, List.map_nil]; rfl) ?_ ?_; (focus kernel_rfl); simp only [Act.put, List.setIfInBounds_toArray, List.set_cons_zero, List.set_cons_succ])
              | (go_big_quiet_step ((intro g2; first
                | (with_reducible rfl)
  ))))
            refine wpQuiet_nil ?_
            intro w9 g9
            have FIN := Lib.hid (D1.out.trans (g9.mono D1.out.size))
            clear g9 HF1 HF2 HF3 HCR CON D1
            go_wp2_with fail
            go_roundw
            case rel => exact ⟨k + 1, rfl, by omega, by omega, NX.out, FIN.out⟩
            case measure => simp [intOf]; omega
        · have NX := Lib.hid (D.out.1.succ hj0 HM.out (HIN.out m k (by omega) hd.out.1))
          have LW := Lib.hid hd.out.2
          clear hd
          subst hQ
          go_wp2_with fail
          go_roundw
          case rel => exact ⟨j + 1, rfl, by omega, by omega, NX.out, LW.out⟩
          case measure => simp [intOf]; omega
    · have hf := HY.out (by rw [show zp = j by omega] at hzp; rw [hzp]; exact hd.out.1)
      subst hf
      have LW := Lib.hid hd.out.2
      clear hd
      go_wp2_with fail
      go_ret
      exact ⟨rfl, G2.out.trans (LW.out.mono G2.out.size)⟩

end Go.Proofs.Ytkakgjmajplgmaa
namespace Go.Proofs.Ytkakgjmajplgmaa
open Go.RowKit
set_option linter.unusedVariables false

theorem kWithinOwn (w : World) : Calls Try.prog 28 #[] w (RetBelow (.agg #[.func (.func 33) #[] #[], .func (.func 34) #[] #[], .func (.func 37) #[] #[]]) w) := by
  have rn0 := Row.new w #[.nilFunc, .nilFunc, .nilFunc] 56
  have RN0 := Lib.hid rn0
  clear rn0
  go_enter Try.func28, Try.ntmps28
  go_wp2_with (first | (refine wpList_store_row rfl 56 _ _ rfl w.heap.size #[.func (.func 33) #[] #[], .func (.func 34) #[] #[], .func (.func 37) #[] #[]] rfl rfl _ _ RN0.out rule_len rfl (three_funcs _ _ _) ?_) | fail)
  exact bodyPost_ret (results_cell_row (p := 0) (by kernel_rfl) _ _ w.heap.size _ _ _ _ rfl (RN0.out.setRow _) Try.underlying56 rfl rule_len) rfl ⟨rfl, below_setRow3 ((Below.refl _ _).alloc (Nat.le_refl _) _) (Nat.le_refl _) _⟩

theorem kWithBorrowed (w : World) : Calls Try.prog 21 #[] w (RetBelow (.agg #[.func (.func 33) #[] #[], .func (.func 34) #[] #[], .func (.func 35) #[] #[]]) w) := by
  have rn0 := Row.new w #[.nilFunc, .nilFunc, .nilFunc] 56
  have RN0 := Lib.hid rn0
  clear rn0
  go_enter Try.func21, Try.ntmps21
  go_wp2_with (first | (refine wpList_store_row rfl 56 _ _ rfl w.heap.size #[.func (.func 33) #[] #[], .func (.func 34) #[] #[], .func (.func 35) #[] #[]] rfl rfl _ _ RN0.out rule_len rfl (three_funcs _ _ _) ?_) | fail)
  exact bodyPost_ret (results_cell_row (p := 0) (by kernel_rfl) _ _ w.heap.size _ _ _ _ rfl (RN0.out.setRow _) Try.underlying56 rfl rule_len) rfl ⟨rfl, below_setRow3 ((Below.refl _ _).alloc (Nat.le_refl _) _) (Nat.le_refl _) _⟩

theorem kInCohort (w : World) : Calls Try.prog 22 #[] w (RetBelow (.agg #[.func (.func 38) #[] #[], .func (.func 39) #[] #[], .func (.func 37) #[] #[]]) w) := by
  have rn0 := Row.new w #[.nilFunc, .nilFunc, .nilFunc] 56
  have RN0 := Lib.hid rn0
  clear rn0
  go_enter Try.func22, Try.ntmps22
  go_wp2_with (first | (refine wpList_store_row rfl 56 _ _ rfl w.heap.size #[.func (.func 38) #[] #[], .func (.func 39) #[] #[], .func (.func 37) #[] #[]] rfl rfl _ _ RN0.out rule_len rfl (three_funcs _ _ _) ?_) | fail)
  exact bodyPost_ret (results_cell_row (p := 0) (by kernel_rfl) _ _ w.heap.size _ _ _ _ rfl (RN0.out.setRow _) Try.underlying56 rfl rule_len) rfl ⟨rfl, below_setRow3 ((Below.refl _ _).alloc (Nat.le_refl _) _) (Nat.le_refl _) _⟩

theorem rule_idx (b len cap i : Nat) (hi : i < len) (w0 : World) : (Instr.indexAt 63 (.slice (some ⟨b, 0, none⟩) len cap) (.int .i64 (i : Int))).run Try.prog w0 = .ok (.pointer (some ⟨b, 0 + i * 3, none⟩)) w0 := by
  have e : (⟨b, 0, none⟩ : Addr).add (i * 3) = ⟨b, 0 + i * 3, none⟩ := by unfold Addr.add; split <;> simp_all
  have h : (0 : Int) ≤ (i : Int) ∧ (i : Int) < (len : Int) := by omega
  simp [Instr.indexAt, run_underlying Try.underlying63, asIntOf, hi, e]
theorem rule_sl {w : World} {B : Nat} {l : List Ru} {t : TypeId} (h : Row w B (cellsOf Ru.c l).toArray t) (hs : l.length ≤ 9223372036854775807) (cap : Nat) : Sl Ru.c 63 3 w (some ⟨B, 0, none⟩) cap B 0 l :=
  ⟨hs, fun _ => h.lt, fun i hi w0 => rule_idx B l.length cap i hi w0, fun i x hx j v hv => by
    rw [h.at_, Nat.zero_add]
    have := cellsOf_at Ru.c 3 (fun _ => rfl) l i x j v hx hv
    simpa using this⟩
theorem load_row {P : Program} {w : World} {b : Nat} {cs : Array Value} {t ty : TypeId} {d : TypeDesc} (hr : Row w b cs t) (hu : P.underlying ty = some d) (hd : (match d with | .struct _ | .array _ _ => true | _ => false) = true) (hi : (P.info? ty).map (·.size) = some cs.size) :
    (Instr.loadAt ty (.pointer (some ⟨b, 0, none⟩))).run P w = .ok (.agg cs) w := by
  simp only [Instr.loadAt, Instr.sureAddr, Sem.run_bind, Sem.run_pure, Result.andThen_ok, run_loadVar_row w b t ty cs _ d hr hu hd hi]

def ruBor (ns : List Nd) (used : List V3) (t : Int) (need : V3) : Ru := ⟨33, 34, 35, fun n => n == t, fun n => Qt.add (Qt.ath used n) need, fun n => Qt.add (Qt.nominal ns n) (Qt.nd ns n).bor⟩
def ruCoh (ns : List Nd) (used : List V3) (t : Int) (need : V3) : Ru := ⟨38, 39, 37, fun n => !(n == t), fun n => Qt.add (Qt.add (Qt.sum ns n used) need) (Qt.kept ns used n t), fun n => Qt.nominal ns n⟩
def ruOwn (ns : List Nd) (used : List V3) (t : Int) (need : V3) : Ru := ⟨33, 34, 37, fun n => n == t, fun n => Qt.add (Qt.ath used n) need, fun n => Qt.nominal ns n⟩

namespace Qt
theorem mem_upTo (ns : List Nd) : ∀ (f : Nat) (n b : Int), b ∈ upTo ns f n → 0 ≤ b ∧ b ≤ n ∧ b < ns.length
  | 0, n, b, h => by simp [upTo] at h
  | f + 1, n, b, h => by
    by_cases q : 0 ≤ n ∧ n < ns.length
    · rw [upTo_in q, List.mem_cons] at h
      rcases h with rfl | h
      · omega
      · have h1 := mem_upTo ns f _ b h
        have h2 := up_less ns n q.1
        omega
    · rw [upTo_out q] at h
      simp at h
theorem mem_path {ns : List Nd} {n b : Int} (h : b ∈ path ns n) : 0 ≤ b ∧ b < ns.length := by
  rw [path_ups, List.mem_reverse] at h
  have := mem_upTo ns _ n b h
  omega
end Qt

theorem ru_bor (c : Cmd) (vn vh : Value) (used : List V3) (ao : Option Addr) (cap ub uo : Nat) (t : Int) (need : V3) (w : World) (h12 : c.nodes.length ≤ 12) (h : CmAt c vn vh w) (hU : Sl V3.c 26 3 w ao cap ub uo used) : RuOk (ruBor c.nodes used t need) #[vn, vh, .int .i64 c.half, .int .i64 c.age, .slice ao used.length cap, .int .i64 t, .int .i64 need.x, .int .i64 need.y, .int .i64 need.z] (Qt.path c.nodes t) w :=
  ⟨fun _ _ => rfl, fun _ _ => rfl, fun _ _ => rfl, fun n hn w2 g => (by
    obtain ⟨an, cn, nb, no, ah, ch, hb, ho, rfl, rfl, _, _⟩ := h
    exact kByTenant an ah ao c.nodes.length cn c.hosts.length ch used.length cap c.half c.age t need.x need.y need.z n w2), fun n hn _ w2 g => kOfTenant c vn vh used ao cap ub uo t need n w2 h12 (h.kept g) (hU.kept g) (Qt.mem_path hn).1, fun n hn _ w2 g => kMostBor c vn vh used ao cap ub uo t need n w2 h12 (h.kept g) (hU.kept g) (Qt.mem_path hn).1 (Qt.mem_path hn).2⟩

theorem ru_coh (c : Cmd) (vn vh : Value) (used : List V3) (ao : Option Addr) (cap ub uo : Nat) (t : Int) (need : V3) (w : World) (h12 : c.nodes.length ≤ 12) (h : CmAt c vn vh w) (hU : Sl V3.c 26 3 w ao cap ub uo used) : RuOk (ruCoh c.nodes used t need) #[vn, vh, .int .i64 c.half, .int .i64 c.age, .slice ao used.length cap, .int .i64 t, .int .i64 need.x, .int .i64 need.y, .int .i64 need.z] (Qt.path c.nodes t) w :=
  ⟨fun _ _ => rfl, fun _ _ => rfl, fun _ _ => rfl, fun n hn w2 g => (by
    obtain ⟨an, cn, nb, no, ah, ch, hb, ho, rfl, rfl, _, _⟩ := h
    exact kByCohort an ah ao c.nodes.length cn c.hosts.length ch used.length cap c.half c.age t need.x need.y need.z n w2), fun n hn _ w2 g => kOfCohort c vn vh used ao cap ub uo t need n w2 h12 (h.kept g) (hU.kept g), fun n hn _ w2 g => kClaimNom c vn vh used ao cap ub uo t need n w2 h12 (h.kept g) (hU.kept g)⟩

theorem ru_own (c : Cmd) (vn vh : Value) (used : List V3) (ao : Option Addr) (cap ub uo : Nat) (t : Int) (need : V3) (w : World) (h12 : c.nodes.length ≤ 12) (h : CmAt c vn vh w) (hU : Sl V3.c 26 3 w ao cap ub uo used) : RuOk (ruOwn c.nodes used t need) #[vn, vh, .int .i64 c.half, .int .i64 c.age, .slice ao used.length cap, .int .i64 t, .int .i64 need.x, .int .i64 need.y, .int .i64 need.z] (Qt.path c.nodes t) w :=
  ⟨fun _ _ => rfl, fun _ _ => rfl, fun _ _ => rfl, fun n hn w2 g => (by
    obtain ⟨an, cn, nb, no, ah, ch, hb, ho, rfl, rfl, _, _⟩ := h
    exact kByTenant an ah ao c.nodes.length cn c.hosts.length ch used.length cap c.half c.age t need.x need.y need.z n w2), fun n hn _ w2 g => kOfTenant c vn vh used ao cap ub uo t need n w2 h12 (h.kept g) (hU.kept g) (Qt.mem_path hn).1, fun n hn _ w2 g => kClaimNom c vn vh used ao cap ub uo t need n w2 h12 (h.kept g) (hU.kept g)⟩

set_option maxHeartbeats 2000000 in
set_option maxRecDepth 8000 in
theorem kMay (c : Cmd) (vn vh : Value) (used : List V3) (ao : Option Addr) (cap ub uo : Nat) (t : Int) (need : V3) (w : World) (h12 : c.nodes.length ≤ 12) (h : CmAt c vn vh w) (hU : Sl V3.c 26 3 w ao cap ub uo used) (ht : In64 t) :
    Calls Try.prog 8 #[.agg (c.f vn vh), .slice ao used.length cap, .int .i64 t, .agg need.c] w (RetBelow (.bool (Cf.leaf c.nodes t && (Qt.path c.nodes t).all fun n => [ruBor c.nodes used t need, ruCoh c.nodes used t need].all fun r => r.ok n)) w) := by
  have hok := fun w2 (g : Below w.heap.size w w2) => (show ∀ r ∈ [ruBor c.nodes used t need, ruCoh c.nodes used t need], RuOk r #[vn, vh, .int .i64 c.half, .int .i64 c.age, .slice ao used.length cap, .int .i64 t, .int .i64 need.x, .int .i64 need.y, .int .i64 need.z] (Qt.path c.nodes t) w2 from fun r hr => by
      simp only [List.mem_cons, List.not_mem_nil, or_false] at hr
      rcases hr with rfl | rfl
      · exact ru_bor c vn vh used ao cap ub uo t need w2 h12 (h.kept g) (hU.kept g)
      · exact ru_coh c vn vh used ao cap ub uo t need w2 h12 (h.kept g) (hU.kept g)
    )
  have hkp := fun w2 (g : Below w.heap.size w w2) ra rcap rb ro hR => kKeeps c vn vh used ao cap ub uo t need [ruBor c.nodes used t need, ruCoh c.nodes used t need] ra rcap rb ro w2 h12 (h.kept g) (hU.kept g) ht hR (hok w2 g)
  have hsl := fun w2 (r : Row w2 w2.heap.size #[] 0) => r.lt
  have hrs : ∀ (w2 : World) (b : Nat), Row w2 b #[.func (.func 33) #[] #[], .func (.func 34) #[] #[], .func (.func 35) #[] #[], .func (.func 38) #[] #[], .func (.func 39) #[] #[], .func (.func 37) #[] #[]] 56 → Sl Ru.c 63 3 w2 (some ⟨b, 0, none⟩) 2 b 0 [ruBor c.nodes used t need, ruCoh c.nodes used t need] := fun w2 b r => rule_sl (l := [ruBor c.nodes used t need, ruCoh c.nodes used t need]) r (by simp) 2
  clear hok hsl
  obtain ⟨RL, hRL⟩ : ∃ l, [ruBor c.nodes used t need, ruCoh c.nodes used t need] = l := ⟨_, rfl⟩
  have hRn : RL.length = 2 := by rw [← hRL]; rfl
  simp only [hRL] at hkp hrs ⊢
  obtain ⟨R, hR⟩ : ∃ b, (Cf.leaf c.nodes t && (Qt.path c.nodes t).all fun n => RL.all fun r => r.ok n) = b := ⟨_, rfl⟩
  rw [hR]
  simp only [hR, hRn] at hkp
  clear hR hRn hRL
  obtain ⟨x, y, z⟩ := need
  obtain ⟨an, cn, nb, no, ah, ch, hb, ho, rfl, rfl, hN, _⟩ := h
  obtain ⟨kind, ns, hosts, half, age, gg, k0⟩ := c
  simp only [Cmd.f, V3.c] at *
  obtain ⟨ul, hul⟩ : ∃ k, used.length = k := ⟨_, rfl⟩
  obtain ⟨ln, hln⟩ : ∃ k, ns.length = k := ⟨_, rfl⟩
  obtain ⟨lh, hlh⟩ : ∃ k, hosts.length = k := ⟨_, rfl⟩
  simp only [hul, hln, hlh] at *
  have rA := (Row.new w #[.slice an ln cn, .slice ah lh ch, .int .i64 half, .int .i64 age] 25).under ((Below.refl _ _).alloc (Nat.le_refl _) (.cells #[.int .i64 x, .int .i64 y, .int .i64 z] 29))
  have rB := Row.new (w.alloc (.cells #[.slice an ln cn, .slice ah lh ch, .int .i64 half, .int .i64 age] 25)) #[.int .i64 x, .int .i64 y, .int .i64 z] 29
  rw [World.size_alloc] at rB
  have g0 := two_below w (.cells #[.slice an ln cn, .slice ah lh ch, .int .i64 half, .int .i64 age] 25) (.cells #[.int .i64 x, .int .i64 y, .int .i64 z] 29)
  have RA := Lib.hid rA; have RB := Lib.hid rB; have G0 := Lib.hid g0; have HKP := Lib.hid hkp; have HRS := Lib.hid hrs
  clear rA rB g0 hkp hrs hul hln hlh hN hU h12 ht
  go_enter Try.func8, Try.ntmps8
  go_wp2_with fail
  have rA := RA.out; have rB := RB.out; have g0 := G0.out
  clear RA RB G0
  obtain ⟨W, hW⟩ : ∃ V, ((w.alloc (.cells #[.slice an ln cn, .slice ah lh ch, .int .i64 half, .int .i64 age] 25)).alloc (.cells #[.int .i64 x, .int .i64 y, .int .i64 z] 29)) = V := ⟨_, rfl⟩
  rw [hW] at rA rB g0 ⊢
  clear hW
  have l0 := fun w9 (g : Below W.heap.size W w9) => load_row (rA.under g) Try.underlying25 rfl config_len'
  have l3 := fun w9 (g : Below W.heap.size W w9) => load_row (rB.under g) Try.underlying29 rfl vec_len
  have L0 := Lib.hid l0; have L3 := Lib.hid l3; have G0 := Lib.hid g0
  have D0 := Lib.hid (show Below W.heap.size W W.drew from below_drewN (Below.refl _ _) 1)
  clear l0 l3 g0 rA rB
  refine wp_region_barr (fun w9 => Below W.heap.size W w9) 9 (by kernel_rfl) ?_
  refine barr_load (v := _) 0 rfl (by decide) (by kernel_rfl) (by kernel_rfl) (by kernel_rfl) (by kernel_rfl) (by kernel_rfl) (fun _ _ _ h => h) (yields_load 25 _ _ rfl (by kernel_rfl) _ rfl (fun w9 g9 => L0.out w9 g9)) D0.out ?_
  try simp only [Act.put, List.setIfInBounds_toArray, List.set_cons_zero, List.set_cons_succ]
  refine barr_take (v := ?v1) 1 rfl (by decide) (by kernel_rfl) (by kernel_rfl) (by kernel_rfl) (fun _ _ _ h => h) (.inl ⟨by rfl, ?hy1⟩) (.inr D0.out) ?rest1
  case hy1 => intro w hSw; (try go_simp); (try with_reducible rfl)
  try simp only [Act.put, List.setIfInBounds_toArray, List.set_cons_zero, List.set_cons_succ]
  refine barr_take (v := ?v2) 2 rfl (by decide) (by kernel_rfl) (by kernel_rfl) (by kernel_rfl) (fun _ _ _ h => h) (.inl ⟨by rfl, ?hy2⟩) (.inr D0.out) ?rest2
  case hy2 => intro w hSw; (try go_simp); (try with_reducible rfl)
  try simp only [Act.put, List.setIfInBounds_toArray, List.set_cons_zero, List.set_cons_succ]
  refine barr_load (v := _) 3 rfl (by decide) (by kernel_rfl) (by kernel_rfl) (by kernel_rfl) (by kernel_rfl) (by kernel_rfl) (fun _ _ _ h => h) (yields_load 29 _ _ rfl (by kernel_rfl) _ rfl (fun w9 g9 => L3.out w9 g9)) D0.out ?_
  try simp only [Act.put, List.setIfInBounds_toArray, List.set_cons_zero, List.set_cons_succ]
  refine barr_take (v := ?v4) 4 rfl (by decide) (by kernel_rfl) (by kernel_rfl) (by kernel_rfl) (fun _ _ _ h => h) (.inl ⟨by rfl, ?hy4⟩) (.inr D0.out) ?rest4
  case hy4 => intro w hSw; (try go_simp); (try with_reducible rfl)
  try simp only [Act.put, List.setIfInBounds_toArray, List.set_cons_zero, List.set_cons_succ]
  refine barr_step 5 rfl (by kernel_rfl) ?_
  intro K hK
  go_simp
  refine (kWithBorrowed _).mono ?_
  rintro er v1 ⟨rfl, b1⟩
  have D1 := Lib.hid (D0.out.trans (b1.mono D0.out.size))
  clear b1
  refine hK.out _ _ (.inr D1.out) ?_
  clear hK K
  try simp only [Act.put, List.setIfInBounds_toArray, List.set_cons_zero, List.set_cons_succ]
  refine barr_step 6 rfl (by kernel_rfl) ?_
  intro K hK
  go_simp
  refine (kInCohort _).mono ?_
  rintro er v2 ⟨rfl, b2⟩
  have D2 := Lib.hid (D1.out.trans (b2.mono D1.out.size))
  clear b2
  refine hK.out _ _ (.inr D2.out) ?_
  clear hK K
  try simp only [Act.put, List.setIfInBounds_toArray, List.set_cons_zero, List.set_cons_succ]
  refine barr_step 7 rfl (by kernel_rfl) ?_
  intro K hK
  go_simp
  have DS := Lib.hid (D2.out.alloc D2.out.size (.cells #[.func (.func 33) #[] #[], .func (.func 34) #[] #[], .func (.func 35) #[] #[], .func (.func 38) #[] #[], .func (.func 39) #[] #[], .func (.func 37) #[] #[]] 56))
  have RS := Lib.hid (HRS.out _ _ (Row.new v2 #[.func (.func 33) #[] #[], .func (.func 34) #[] #[], .func (.func 35) #[] #[], .func (.func 38) #[] #[], .func (.func 39) #[] #[], .func (.func 37) #[] #[]] 56))
  refine hK.out _ _ (.inr DS.out) ?_
  clear hK K
  try simp only [Act.put, List.setIfInBounds_toArray, List.set_cons_zero, List.set_cons_succ]
  refine barr_step 8 rfl (by kernel_rfl) ?_
  intro K hK
  go_simp
  refine (HKP.out _ (G0.out.trans (DS.out.mono G0.out.size)) _ _ _ _ RS.out).mono ?_
  rintro er v9 ⟨rfl, b9⟩
  have D9 := Lib.hid (DS.out.trans (b9.mono DS.out.size))
  clear b9
  refine hK.out _ _ (.inr D9.out) ?_
  clear hK K
  try simp only [Act.put, List.setIfInBounds_toArray, List.set_cons_zero, List.set_cons_succ]
  refine barr_step 9 rfl (by kernel_rfl) ?_
  intro K hK
  go_simp
  refine hK.out _ _ (.inl (by kernel_rfl)) ?_
  clear hK K
  try simp only [Act.put, List.setIfInBounds_toArray, List.set_cons_zero, List.set_cons_succ]
  refine barr_done (by kernel_rfl) ?_ _
  go_wp2_with fail
  go_ret
  exact ⟨rfl, G0.out.trans (D9.out.mono G0.out.size)⟩

set_option maxHeartbeats 2000000 in
set_option maxRecDepth 8000 in
theorem uWithin (c : Cmd) (vn vh : Value) (used : List V3) (ao : Option Addr) (cap ub uo : Nat) (t : Int) (need : V3) (w : World) (h12 : c.nodes.length ≤ 12) (h : CmAt c vn vh w) (hU : Sl V3.c 26 3 w ao cap ub uo used) (ht : In64 t) :
    Calls Try.prog 16 #[.agg (c.f vn vh), .slice ao used.length cap, .int .i64 t, .agg need.c] w (RetBelow (.bool (Cf.leaf c.nodes t && (Qt.path c.nodes t).all fun n => [ruOwn c.nodes used t need].all fun r => r.ok n)) w) := by
  have hok := fun w2 (g : Below w.heap.size w w2) => (show ∀ r ∈ [ruOwn c.nodes used t need], RuOk r #[vn, vh, .int .i64 c.half, .int .i64 c.age, .slice ao used.length cap, .int .i64 t, .int .i64 need.x, .int .i64 need.y, .int .i64 need.z] (Qt.path c.nodes t) w2 from fun r hr => by
      simp only [List.mem_cons, List.not_mem_nil, or_false] at hr
      subst hr
      exact ru_own c vn vh used ao cap ub uo t need w2 h12 (h.kept g) (hU.kept g)
    )
  have hkp := fun w2 (g : Below w.heap.size w w2) ra rcap rb ro hR => kKeeps c vn vh used ao cap ub uo t need [ruOwn c.nodes used t need] ra rcap rb ro w2 h12 (h.kept g) (hU.kept g) ht hR (hok w2 g)
  have hsl := fun w2 (r : Row w2 w2.heap.size #[] 0) => r.lt
  have hrs : ∀ (w2 : World) (b : Nat), Row w2 b #[.func (.func 33) #[] #[], .func (.func 34) #[] #[], .func (.func 37) #[] #[]] 56 → Sl Ru.c 63 3 w2 (some ⟨b, 0, none⟩) 1 b 0 [ruOwn c.nodes used t need] := fun w2 b r => rule_sl (l := [ruOwn c.nodes used t need]) r (by simp) 1
  clear hok hsl
  obtain ⟨RL, hRL⟩ : ∃ l, [ruOwn c.nodes used t need] = l := ⟨_, rfl⟩
  have hRn : RL.length = 1 := by rw [← hRL]; rfl
  simp only [hRL] at hkp hrs ⊢
  obtain ⟨R, hR⟩ : ∃ b, (Cf.leaf c.nodes t && (Qt.path c.nodes t).all fun n => RL.all fun r => r.ok n) = b := ⟨_, rfl⟩
  rw [hR]
  simp only [hR, hRn] at hkp
  clear hR hRn hRL
  obtain ⟨x, y, z⟩ := need
  obtain ⟨an, cn, nb, no, ah, ch, hb, ho, rfl, rfl, hN, _⟩ := h
  obtain ⟨kind, ns, hosts, half, age, gg, k0⟩ := c
  simp only [Cmd.f, V3.c] at *
  obtain ⟨ul, hul⟩ : ∃ k, used.length = k := ⟨_, rfl⟩
  obtain ⟨ln, hln⟩ : ∃ k, ns.length = k := ⟨_, rfl⟩
  obtain ⟨lh, hlh⟩ : ∃ k, hosts.length = k := ⟨_, rfl⟩
  simp only [hul, hln, hlh] at *
  have rA := (Row.new w #[.slice an ln cn, .slice ah lh ch, .int .i64 half, .int .i64 age] 25).under ((Below.refl _ _).alloc (Nat.le_refl _) (.cells #[.int .i64 x, .int .i64 y, .int .i64 z] 29))
  have rB := Row.new (w.alloc (.cells #[.slice an ln cn, .slice ah lh ch, .int .i64 half, .int .i64 age] 25)) #[.int .i64 x, .int .i64 y, .int .i64 z] 29
  rw [World.size_alloc] at rB
  have g0 := two_below w (.cells #[.slice an ln cn, .slice ah lh ch, .int .i64 half, .int .i64 age] 25) (.cells #[.int .i64 x, .int .i64 y, .int .i64 z] 29)
  have RA := Lib.hid rA; have RB := Lib.hid rB; have G0 := Lib.hid g0; have HKP := Lib.hid hkp; have HRS := Lib.hid hrs
  clear rA rB g0 hkp hrs hul hln hlh hN hU h12 ht
  go_enter Try.func16, Try.ntmps16
  go_wp2_with fail
  have rA := RA.out; have rB := RB.out; have g0 := G0.out
  clear RA RB G0
  obtain ⟨W, hW⟩ : ∃ V, ((w.alloc (.cells #[.slice an ln cn, .slice ah lh ch, .int .i64 half, .int .i64 age] 25)).alloc (.cells #[.int .i64 x, .int .i64 y, .int .i64 z] 29)) = V := ⟨_, rfl⟩
  rw [hW] at rA rB g0 ⊢
  clear hW
  have l0 := fun w9 (g : Below W.heap.size W w9) => load_row (rA.under g) Try.underlying25 rfl config_len'
  have l3 := fun w9 (g : Below W.heap.size W w9) => load_row (rB.under g) Try.underlying29 rfl vec_len
  have L0 := Lib.hid l0; have L3 := Lib.hid l3; have G0 := Lib.hid g0
  have D0 := Lib.hid (show Below W.heap.size W W.drew from below_drewN (Below.refl _ _) 1)
  clear l0 l3 g0 rA rB
  refine wp_region_barr (fun w9 => Below W.heap.size W w9) 8 (by kernel_rfl) ?_
  refine barr_load (v := _) 0 rfl (by decide) (by kernel_rfl) (by kernel_rfl) (by kernel_rfl) (by kernel_rfl) (by kernel_rfl) (fun _ _ _ h => h) (yields_load 25 _ _ rfl (by kernel_rfl) _ rfl (fun w9 g9 => L0.out w9 g9)) D0.out ?_
  try simp only [Act.put, List.setIfInBounds_toArray, List.set_cons_zero, List.set_cons_succ]
  refine barr_take (v := ?v1) 1 rfl (by decide) (by kernel_rfl) (by kernel_rfl) (by kernel_rfl) (fun _ _ _ h => h) (.inl ⟨by rfl, ?hy1⟩) (.inr D0.out) ?rest1
  case hy1 => intro w hSw; (try go_simp); (try with_reducible rfl)
  try simp only [Act.put, List.setIfInBounds_toArray, List.set_cons_zero, List.set_cons_succ]
  refine barr_take (v := ?v2) 2 rfl (by decide) (by kernel_rfl) (by kernel_rfl) (by kernel_rfl) (fun _ _ _ h => h) (.inl ⟨by rfl, ?hy2⟩) (.inr D0.out) ?rest2
  case hy2 => intro w hSw; (try go_simp); (try with_reducible rfl)
  try simp only [Act.put, List.setIfInBounds_toArray, List.set_cons_zero, List.set_cons_succ]
  refine barr_load (v := _) 3 rfl (by decide) (by kernel_rfl) (by kernel_rfl) (by kernel_rfl) (by kernel_rfl) (by kernel_rfl) (fun _ _ _ h => h) (yields_load 29 _ _ rfl (by kernel_rfl) _ rfl (fun w9 g9 => L3.out w9 g9)) D0.out ?_
  try simp only [Act.put, List.setIfInBounds_toArray, List.set_cons_zero, List.set_cons_succ]
  refine barr_take (v := ?v4) 4 rfl (by decide) (by kernel_rfl) (by kernel_rfl) (by kernel_rfl) (fun _ _ _ h => h) (.inl ⟨by rfl, ?hy4⟩) (.inr D0.out) ?rest4
  case hy4 => intro w hSw; (try go_simp); (try with_reducible rfl)
  try simp only [Act.put, List.setIfInBounds_toArray, List.set_cons_zero, List.set_cons_succ]
  refine barr_step 5 rfl (by kernel_rfl) ?_
  intro K hK
  go_simp
  refine (kWithinOwn _).mono ?_
  rintro er v1 ⟨rfl, b1⟩
  have D1 := Lib.hid (D0.out.trans (b1.mono D0.out.size))
  clear b1
  refine hK.out _ _ (.inr D1.out) ?_
  clear hK K
  try simp only [Act.put, List.setIfInBounds_toArray, List.set_cons_zero, List.set_cons_succ]
  refine barr_step 6 rfl (by kernel_rfl) ?_
  intro K hK
  go_simp
  have DS := Lib.hid (D1.out.alloc D1.out.size (.cells #[.func (.func 33) #[] #[], .func (.func 34) #[] #[], .func (.func 37) #[] #[]] 56))
  have RS := Lib.hid (HRS.out _ _ (Row.new v1 #[.func (.func 33) #[] #[], .func (.func 34) #[] #[], .func (.func 37) #[] #[]] 56))
  refine hK.out _ _ (.inr DS.out) ?_
  clear hK K
  try simp only [Act.put, List.setIfInBounds_toArray, List.set_cons_zero, List.set_cons_succ]
  refine barr_step 7 rfl (by kernel_rfl) ?_
  intro K hK
  go_simp
  refine (HKP.out _ (G0.out.trans (DS.out.mono G0.out.size)) _ _ _ _ RS.out).mono ?_
  rintro er v9 ⟨rfl, b9⟩
  have D9 := Lib.hid (DS.out.trans (b9.mono DS.out.size))
  clear b9
  refine hK.out _ _ (.inr D9.out) ?_
  clear hK K
  try simp only [Act.put, List.setIfInBounds_toArray, List.set_cons_zero, List.set_cons_succ]
  refine barr_step 8 rfl (by kernel_rfl) ?_
  intro K hK
  go_simp
  refine hK.out _ _ (.inl (by kernel_rfl)) ?_
  clear hK K
  try simp only [Act.put, List.setIfInBounds_toArray, List.set_cons_zero, List.set_cons_succ]
  refine barr_done (by kernel_rfl) ?_ _
  go_wp2_with fail
  go_ret
  exact ⟨rfl, G0.out.trans (D9.out.mono G0.out.size)⟩

end Go.Proofs.Ytkakgjmajplgmaa
namespace Go.Proofs.Ytkakgjmajplgmaa
open Go.RowKit
set_option linter.unusedVariables false

namespace Qt
theorem path_last {ns : List Nd} {t : Int} (h : 0 ≤ t ∧ t < ns.length) : ∃ l, path ns t = l ++ [t] ∧ ∀ b ∈ l, b ≠ t := by
  refine ⟨(ups ns (up ns t)).reverse, ?_, fun b hb e => ?_⟩
  · rw [path_ups, ups_in h, List.reverse_cons]
  · rw [List.mem_reverse] at hb
    have h1 := mem_upTo ns _ _ b hb
    have h2 := up_less ns t h.1
    omega
theorem up_leaf {ns : List Nd} {t : Int} (ht : Cf.leaf ns t = true) {m : Int} (hm : 0 ≤ m ∧ m < ns.length) (h : up ns m = t) : False := by
  have h0 := (leaf_in ht).1
  unfold up at h
  split at h
  · have hp := Cf.leaf_par (node_in hm)
    rw [h, ht] at hp
    cases hp
  · omega
theorem on_leaf {ns : List Nd} {t : Int} (ht : Cf.leaf ns t = true) : ∀ (f : Nat) (m : Int), m.toNat ≤ f → 0 ≤ m ∧ m < ns.length → on ns t m = true → m = t
  | f, m, hf, hm, h => by
    rw [on_in hm] at h
    by_cases e : m = t
    · exact e
    · exfalso
      simp only [e, decide_false, Bool.false_or, Bool.and_eq_true, isIn, decide_eq_true_eq] at h
      have hl := up_less ns m hm.1
      cases f with
      | zero => omega
      | succ f =>
        have := on_leaf ht f (up ns m) (by omega) h.1 h.2
        exact up_leaf ht hm this
theorem below_leaf {ns : List Nd} {t : Int} (ht : Cf.leaf ns t = true) : below ns t = [t] := by
  have hs := below_sorted ns t
  have hall : ∀ b ∈ below ns t, b = t := fun b hb => by
    have h1 := mem_below.1 hb
    exact on_leaf ht b.toNat b (Nat.le_refl _) (leaf_in h1.1) h1.2
  have hmem : t ∈ below ns t := by
    rw [mem_below]
    refine ⟨ht, ?_⟩
    rw [on_in (leaf_in ht)]
    simp
  revert hs hall hmem
  cases below ns t with
  | nil => intro _ _ h; simp at h
  | cons a r =>
    intro hs hall _
    have ha := hall a (by simp)
    subst ha
    cases r with
    | nil => rfl
    | cons b r =>
      have hb := hall b (by simp)
      have := (List.pairwise_cons.1 hs).1 b (by simp)
      omega
theorem far_ok {x : Int} (h : ok1 x) : far x = x := far_in (by have := h.1; omega) (by have := h.2; omega)
theorem zero_add {v : V3} (h : okv v) : add z3 v = v := by
  obtain ⟨h1, h2, h3⟩ := h
  have e : ∀ x, ok1 x → add1 0 x = x := fun x hx => by
    unfold add1
    rw [far_ok hx, show far 0 = 0 by decide, Int.zero_add, far_ok hx]
  unfold add z3
  rw [e _ h1, e _ h2, e _ h3]
theorem nominal_leaf {c : Cmd} (hc : Cf.check c = 0) {t : Int} (ht : Cf.leaf c.nodes t = true) : nominal c.nodes t = (nd c.nodes t).nom := by
  have hi := leaf_in ht
  have ha : ath (c.nodes.map (·.nom)) t = (nd c.nodes t).nom := by
    have h1 := ath_some (l := c.nodes.map (·.nom)) (i := t.toNat) (x := (nd c.nodes t).nom) (by rw [List.getElem?_map, node_in hi]; rfl)
    rwa [show ((t.toNat : Nat) : Int) = t by omega] at h1
  unfold nominal sum
  rw [below_leaf ht, sumL, sumL, ha]
  exact zero_add (leaf_okv hc ht).1
/-- A sum that is cut fits as well as the one that is not. -/
theorem fits_cut {v u : V3} (hu : okv u) : Cf.fits (add v z3) u = Cf.fits v u := by
  have e : ∀ a b, ok1 b → (add1 a 0 ≤ b ↔ a ≤ b) := fun a b hb => by
    unfold add1
    rw [show far 0 = 0 by decide, Int.add_zero]
    have h1 := hb.1
    have h2 := hb.2
    have hr := far_range a
    rw [far_in (n := far a) hr.1 hr.2]
    unfold far
    (repeat' split) <;> omega
  rw [Bool.eq_iff_iff, fits_iff, fits_iff]
  unfold le
  rw [add_x, add_y, add_z]
  show (add1 v.x 0 ≤ u.x ∧ add1 v.y 0 ≤ u.y ∧ add1 v.z 0 ≤ u.z) ↔ _
  rw [e _ _ hu.1, e _ _ hu.2.1, e _ _ hu.2.2]
end Qt

theorem may_rules {c : Cmd} (hc : Cf.check c = 0) (used : List V3) (t : Int) (need : V3) :
    (Cf.leaf c.nodes t && (Qt.path c.nodes t).all fun n => [ruBor c.nodes used t need, ruCoh c.nodes used t need].all fun r => r.ok n) = Qt.may c.nodes used t need := by
  unfold Qt.may
  by_cases ht : Cf.leaf c.nodes t = true
  · obtain ⟨l, hl, hne⟩ := Qt.path_last (Qt.leaf_in ht)
    rw [hl, ht, List.dropLast_concat, List.all_append]
    have e1 : (l.all fun n => [ruBor c.nodes used t need, ruCoh c.nodes used t need].all fun r => r.ok n) = l.all (Qt.cohort c.nodes used t need) := by
      rw [Bool.eq_iff_iff, List.all_eq_true, List.all_eq_true]
      have q : ∀ n ∈ l, ([ruBor c.nodes used t need, ruCoh c.nodes used t need].all fun r => r.ok n) = Qt.cohort c.nodes used t need n := fun n hn => by
        have := hne n hn
        simp only [List.all_cons, List.all_nil, ruBor, ruCoh, Ru.ok, Qt.cohort]
        rw [show (n == t) = false by simpa using this]
        simp
      exact ⟨fun h n hn => by rw [← q n hn]; exact h n hn, fun h n hn => by rw [q n hn]; exact h n hn⟩
    rw [e1]
    simp only [List.all_cons, List.all_nil, ruBor, ruCoh, Ru.ok]
    rw [Qt.nominal_leaf hc ht, show (t == t) = true by simp]
    simp only [Bool.not_true, Bool.false_and, Bool.not_false, Bool.true_and, Bool.not_not, Bool.and_true]
    rw [Bool.and_comm]
  · rw [show Cf.leaf c.nodes t = false by simpa using ht]
    rfl
theorem within_rules {c : Cmd} (hc : Cf.check c = 0) (used : List V3) (t : Int) (need : V3) :
    (Cf.leaf c.nodes t && (Qt.path c.nodes t).all fun n => [ruOwn c.nodes used t need].all fun r => r.ok n) = Qt.within c.nodes used t need := by
  unfold Qt.within
  by_cases ht : Cf.leaf c.nodes t = true
  · obtain ⟨l, hl, hne⟩ := Qt.path_last (Qt.leaf_in ht)
    rw [hl, ht, List.all_append]
    have e1 : (l.all fun n => [ruOwn c.nodes used t need].all fun r => r.ok n) = true := by
      rw [List.all_eq_true]
      intro n hn
      have := hne n hn
      simp only [List.all_cons, List.all_nil, ruOwn, Ru.ok]
      rw [show (n == t) = false by simpa using this]
      simp
    rw [e1]
    simp only [List.all_cons, List.all_nil, ruOwn, Ru.ok]
    rw [Qt.nominal_leaf hc ht, show (t == t) = true by simp]
    simp
  · rw [show Cf.leaf c.nodes t = false by simpa using ht]
    rfl

set_option maxHeartbeats 400000 in
theorem kBorrows (c : Cmd) (vn vh : Value) (used : List V3) (ao : Option Addr) (cap ub uo : Nat) (t : Int) (w : World) (hc : Cf.check c = 0) (h : CmAt c vn vh w) (hU : Sl V3.c 26 3 w ao cap ub uo used) (ht : In64 t) :
    Calls Try.prog 18 #[.agg (c.f vn vh), .slice ao used.length cap, .int .i64 t] w (RetBelow (.bool (Qt.borrows c.nodes used t)) w) := by
  have h12 := Qt.check_few hc
  have hlf := fun w2 (g : Below w.heap.size w w2) => kLeaf c vn vh t w2 ht (by omega) (h.kept g)
  have hwi := fun w2 (g : Below w.heap.size w w2) => uWithin c vn vh used ao cap ub uo t ⟨0, 0, 0⟩ w2 h12 (h.kept g) (hU.kept g) ht
  simp only [within_rules hc] at hwi
  have hb : Qt.borrows c.nodes used t = (Cf.leaf c.nodes t && !Qt.within c.nodes used t ⟨0, 0, 0⟩) := by
    unfold Qt.borrows Qt.within
    by_cases hl : Cf.leaf c.nodes t = true
    · rw [hl]
      have := Qt.fits_cut (v := Qt.ath used t) (Qt.leaf_okv hc hl).1
      unfold Qt.z3 at this
      rw [this]
      simp
    · rw [show Cf.leaf c.nodes t = false by simpa using hl]
      rfl
  rw [hb]
  obtain ⟨L, hL⟩ : ∃ L, Cf.leaf c.nodes t = L := ⟨_, rfl⟩
  obtain ⟨I, hI⟩ : ∃ L, Qt.within c.nodes used t ⟨0, 0, 0⟩ = L := ⟨_, rfl⟩
  rw [hL, hI]
  simp only [hL] at hlf
  simp only [hI] at hwi
  clear hb hL hI hc h12
  obtain ⟨an, cn, nb, no, ah, ch, hb, ho, rfl, rfl, hN, _⟩ := h
  obtain ⟨kind, ns, hosts, half, age, gg, k0⟩ := c
  simp only [Cmd.f, V3.c] at *
  obtain ⟨ul, hul⟩ : ∃ k, used.length = k := ⟨_, rfl⟩
  obtain ⟨ln, hln⟩ : ∃ k, ns.length = k := ⟨_, rfl⟩
  obtain ⟨lh, hlh⟩ : ∃ k, hosts.length = k := ⟨_, rfl⟩
  simp only [hul, hln, hlh] at *
  have G0 := Lib.hid ((Below.refl w.heap.size w).alloc (Nat.le_refl _) (.cells #[.slice an ln cn, .slice ah lh ch, .int .i64 half, .int .i64 age] 25))
  have R0 := Lib.hid (Row.new w #[.slice an ln cn, .slice ah lh ch, .int .i64 half, .int .i64 age] 25)
  have HLF := Lib.hid hlf; have HWI := Lib.hid hwi
  clear hlf hwi hul hln hlh hN hU ht
  go_enter Try.func18, Try.ntmps18
  go_wp2_with fail
  refine (HLF.out _ G0.out).mono ?_
  rintro er w1 ⟨rfl, b1⟩
  have r1 := R0.out.under b1
  have k0 : w1.cell? ⟨w.heap.size, 0, none⟩ = some (.slice an ln cn) := r1.at_ 0
  have k1 : w1.cell? ⟨w.heap.size, 1, none⟩ = some (.slice ah lh ch) := r1.at_ 1
  have k2 : w1.cell? ⟨w.heap.size, 2, none⟩ = some (.int .i64 half) := r1.at_ 2
  have k3 : w1.cell? ⟨w.heap.size, 3, none⟩ = some (.int .i64 age) := r1.at_ 3
  have G1 := Lib.hid (below_trans G0.out b1)
  clear b1 r1 G0 R0 HLF
  cases L
  · go_wp2_with fail
    go_ret
    exact ⟨rfl, G1.out⟩
  · go_wp2_with fail
    refine (HWI.out _ G1.out).mono ?_
    rintro er w2 ⟨rfl, b2⟩
    have G2 := Lib.hid (below_trans G1.out b2)
    clear b2 G1 HWI k0 k1 k2 k3
    go_wp2_with fail
    go_ret
    exact ⟨by rw [Bool.true_and]; rfl, G2.out⟩

theorem theQuC : QuC where
  may := fun c vn vh used ao cap bb oo t need w _ hc h hU _ _ ht _ => by
    rw [← may_rules hc]
    exact kMay c vn vh used ao cap bb oo t need w (Qt.check_few hc) h hU ht
  within := fun c vn vh used ao cap bb oo t need w _ hc h hU _ _ ht _ => by
    rw [← within_rules hc]
    exact uWithin c vn vh used ao cap bb oo t need w (Qt.check_few hc) h hU ht
  borrows := fun c vn vh used ao cap bb oo t w _ hc h hU _ _ ht => kBorrows c vn vh used ao cap bb oo t w hc h hU ht
  nominal := fun c vn vh n w _ hc h _ => kNominal c vn vh n w (Qt.check_few hc) h
  kept := fun c vn vh used ao cap bb oo n t w _ hc h hU _ _ _ _ => kKept c vn vh used ao cap bb oo n t w (Qt.check_few hc) h hU

end Go.Proofs.Ytkakgjmajplgmaa

import Derived.Test.YtkmceioojdhggaaDoorLawTwo
import Derived.Deep.RegionHeld3
import Derived.Deep.MidRow
namespace Go.Proofs.YtkmceioojdhggaaDoor
open Go.RowKit
set_option linter.unusedVariables false

theorem quiet_left {P : Program} {f : FuncId} {args : Array Value} {w : World} {n : Nat} {v : Value}
    (h : Calls P f args (w.drewN n) fun e w' => e = .returned v ∧ w.drewN n = w') : Calls P f args (w.drewN n) fun e w'' => e = .returned v ∧ ∃ m, w'' = w.drewN m :=
  h.mono fun _ _ ⟨he, hm⟩ => ⟨he, n, hm.symm⟩

theorem grown_cell {w w' : World} (g : Grown w w') {b o : Nat} (h : b < w.heap.size) : w'.cell? ⟨b, o, none⟩ = w.cell? ⟨b, o, none⟩ :=
  World.cell?_of_block (w := w) (World.keptBut.block g.1 h (fun p f => f.elim))

theorem tab_range (w : World) (o : Obj) (n : Nat) : (((w.alloc o).alloc (.cells tabCs 29)).drewN n).rangeAt (w.heap.size + 1) 0 tabCs.toList := fun j v hv => by
  have e : (w.alloc o).heap.size = w.heap.size + 1 := by simp
  have h := cell_of_row ((w.alloc o).alloc (.cells tabCs 29)) (w.heap.size + 1) (0 + j) tabCs 29 (0, 0) (by rw [← e]; exact heap_alloc_last _ _)
  refine h.trans ?_
  rw [Nat.zero_add]
  simpa using hv

theorem tab_eql (W : World) : (binOp .eql 29 (.agg tabCs) (.agg tabCs)).run Tryd.prog W = .ok (.bool true) W := by kernel_rfl

set_option maxRecDepth 100000 in
set_option maxHeartbeats 1000000 in
theorem DecayTable_walk (i : Int) (i0 : -9223372036854775808 ≤ i) (i1 : i ≤ 9223372036854775807) (w : World) (ht : HasTab w) :
    Calls Tryd.prog 5 #[.int .i64 i] w fun e w' => e = .returned (.bool true) ∧ Grown w w' := by
  obtain ⟨r, er, r0, r1⟩ := uMod i 15 (by decide)
  obtain ⟨k, rfl⟩ := Int.eq_ofNat_of_zero_le r0
  obtain ⟨s1, s2, s3, s4⟩ := Dec.squares k (by omega)
  have p0 := Dec.pw_range k
  have p1 := Dec.pw_range (k + 1)
  have hs := tab_size
  have hst := tab_store2 w
  have c0 := tab_cell2 w (.cells tabCs 29) k (by omega)
  have c1 := tab_cell2 w (.cells tabCs 29) (k + 1) (by omega)
  generalize Dec.pw k = P0 at *
  generalize Dec.pw (k + 1) = P1 at *
  go_enter Tryd.func5, Tryd.ntmps5
  go_wp2_with fail
  refine (Table_any _ ht).mono ?_
  rintro e w' ⟨rfl, rfl⟩
  go_wp2_with fail
  have k1 : IntKind.i64.wrap ((k : Int) + 1) = (k : Int) + 1 := IntWalk.i64_in _ (by omega)
  have k2 : ((k : Int) + 1).toNat = k + 1 := by omega
  have k3 : (0 : Int) ≤ (k : Int) + 1 := by omega
  have k4 : (k : Int) + 1 < 16 := by omega
  have k5 : IntKind.u64.wrap (P1 + 1) = P1 + 1 := by rw [IntKind.wrap_u64]; omega
  have b1 : 0 ≤ P1 + 1 := by omega
  have b2 : P1 + 1 ≤ 18446744073709551615 := by omega
  have b3 : 0 ≤ P1 := by omega
  have b4 : P1 ≤ 18446744073709551615 := by omega
  go_quiet ((go_at_call 14; (first | with_reducible exact quiet_left (rMul_any _ _ b3 b4 b3 b4 _) | with_reducible exact quiet_left (rMul_any _ _ b1 b2 b1 b2 _))))
  go_wp2_with fail
  have g0 : Grown w (((w.alloc (.cells tabCs 29)).alloc (.cells tabCs 29)).drewN nq) := ((Grown.refl w).alloc _ _).alloc _ _
  have cr : (((w.alloc (.cells tabCs 29)).alloc (.cells tabCs 29)).drewN nq).rangeAt (w.heap.size + 1) 0 tabCs.toList := tab_range w _ nq
  have t0 := ht.grown g0
  have hB : w.heap.size + 1 < (((w.alloc (.cells tabCs 29)).alloc (.cells tabCs 29)).drewN nq).heap.size := by simp
  have c0' : (((w.alloc (.cells tabCs 29)).alloc (.cells tabCs 29)).drewN nq).cell? ⟨w.heap.size + 1, k, none⟩ = some (.int .u64 P0) := c0
  have c1' : (((w.alloc (.cells tabCs 29)).alloc (.cells tabCs 29)).drewN nq).cell? ⟨w.heap.size + 1, k + 1, none⟩ = some (.int .u64 P1) := c1
  clear c0 c1 hst
  generalize ((w.alloc (.cells tabCs 29)).alloc (.cells tabCs 29)).drewN nq = W at *
  generalize w.heap.size + 1 = B at *
  have m1 : Fx.mul (P1 + 1) (P1 + 1) ≤ P1 + 1 := Dec.mul_le _ _ b1 b2 (by omega)
  have m2 : 0 ≤ Fx.mul (P1 + 1) (P1 + 1) := (Fx.mul_range _ _ b1 b1).1
  generalize Fx.mul P1 P1 = M0 at *
  generalize Fx.mul (P1 + 1) (P1 + 1) = M1 at *
  have k6 : IntKind.u64.wrap (M1 + 1) = M1 + 1 := by rw [IntKind.wrap_u64]; omega
  have hu := Tryd.underlying29
  have hi : (Tryd.prog.info? 29).map (·.size) = some tabCs.toList.length := by kernel_rfl
  have hl : tabCs.toList.length = 16 := by kernel_rfl
  have h1 : ∀ v ∈ tabCs.toList, v.oneCell' = true := fun v hv => (Array.all_eq_true_iff_forall_mem.1 tab_all) v (by simpa using hv)
  have te := tab_eql
  have k7 : (k : Int) < 16 := by omega
  have K : ∀ W' : World, Grown W W' → HasTab W' ∧ Grown W W' ∧ W'.rangeAt B 0 tabCs.toList ∧ W'.cell? ⟨B, k, none⟩ = some (.int .u64 P0) ∧ W'.cell? ⟨B, k + 1, none⟩ = some (.int .u64 P1) := fun W' g =>
    ⟨t0.grown g, g, fun j v hv => (grown_cell g (by exact hB)).trans (cr j v hv), (grown_cell g (by exact hB)).trans c0', (grown_cell g (by exact hB)).trans c1'⟩
  go_region_held3 (fun w' => HasTab w' ∧ Grown W w' ∧ w'.rangeAt B 0 tabCs.toList ∧ w'.cell? ⟨B, k, none⟩ = some (.int .u64 P0) ∧ w'.cell? ⟨B, k + 1, none⟩ = some (.int .u64 P1))
    (first | exact K _ (Grown.refl _) | exact K _ (((Grown.refl W).alloc _ _).drew) | exact K _ (by assumption) | exact K _ (grown_trans (((Grown.refl W).alloc _ _).drew) (by assumption)) | exact K _ (grown_trans ((Grown.refl W).alloc _ _) (by assumption)))
    (first | (go_at_call 15; (with_reducible refine (rTable_any _).mono ?_); rintro e w' ⟨rfl, rfl⟩) | (go_at_call 10; (with_reducible refine (awake2_any _ (t0.grown (((Grown.refl W).alloc _ _).drew))).mono ?_); rintro e w' ⟨rfl, g⟩))
  go_wp2
  go_ret
  refine ⟨rfl, grown_trans g0 ?_⟩
  exact grown_trans (((Grown.refl W).alloc _ _).drew) (by assumption)

end Go.Proofs.YtkmceioojdhggaaDoor

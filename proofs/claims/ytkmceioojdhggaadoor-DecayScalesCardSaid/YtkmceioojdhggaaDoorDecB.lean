import Derived.Test.YtkmceioojdhggaaDoorDecA
import Derived.Test.YtkmceioojdhggaaDoorRefTwo
import Derived.Great.BuildSlice
import Derived.LoopTactic
namespace Go.Proofs.YtkmceioojdhggaaDoor
open Go.RowKit
set_option linter.unusedVariables false

/-- A value is returned; new blocks may have come, nothing that was there has turned. -/
def RetGrown (v : Value) (w : World) (e : Ending) (w' : World) : Prop := e = .returned v ∧ Grown w w'

theorem retGrown_u64 {a b : Int} {w : World} {e : Ending} {w' : World} (h : a = b) (he : e = .returned (.int .u64 a)) (hw : Grown w w') : RetGrown (.int .u64 b) w e w' := by
  subst h; exact ⟨he, hw⟩

theorem grown_drewN' {W w' : World} (h : Grown W w') (n : Nat) : Grown W (w'.drewN n) := h

theorem grown_trans {a b c : World} (h : Grown a b) (k : Grown b c) : Grown a c :=
  ⟨World.keptBut_trans h.1 k.1, fun x => (k.2.1 x).trans (h.2.1 x), Nat.le_trans h.2.2 k.2.2⟩

theorem HasTab.grown {w w' : World} (h : HasTab w) (g : Grown w w') : HasTab w' := by
  obtain ⟨t, fr, hg⟩ := h
  exact ⟨t, fr, by rw [World.keptBut.block g.1 (Array.getElem?_eq_some_iff.1 hg).1 (fun p f => f.elim)]; exact hg⟩

theorem bld_tab {ops : Array Oper} {rest : List Oper} {o : Oper} {a : Act} {w : World} {Q : Exit → Act → World → Prop} (hg : o.guard = none) (parts : Array (Nat × Operand)) (ho : o.op = .build 29 parts) (d : Option Tmp) (hd : o.dst = d)
    (hparts : parts.toList = (Dec.tab.zipIdx 0).map fun x => (x.2, Operand.const (Value.int .u64 x.1)))
    (h : wpList Tryd.prog ops Q rest (a.put d (.agg tabCs)) w) : wpList Tryd.prog ops Q (o :: rest) a w :=
  wpList_buildFlatArrTo hg 29 23 16 parts ho .u64 Dec.tab d hd Tryd.underlying29 (by kernel_rfl) (by kernel_rfl) hparts h

set_option maxHeartbeats 400000 in
theorem rTable_any (w : World) :
    Calls Tryd.prog 15 #[] w fun e w' => e = .returned (.agg tabCs) ∧ w' = w.alloc (.cells tabCs 29) := by
  have hs := tab_size
  have hst := tab_store w
  go_enter Tryd.func15, Tryd.ntmps15
  go_wp2_with (refine bld_tab rfl _ rfl _ rfl (by kernel_rfl) ?_)
  exact bodyPost_ret (results_cell_row (p := 0) (by kernel_rfl) _ _ w.heap.size _ _ _ _ rfl (heap_alloc_last w _) Tryd.underlying29 rfl (by kernel_rfl)) rfl ⟨rfl, rfl⟩

theorem tab_store2 (W : World) (o : Obj) (c : Array Value) (hc : c.size = 16) : (storeCells ⟨W.heap.size + 1, 0, none⟩ tabCs.toList 0).run Tryd.prog ((W.alloc o).alloc (.cells c 29)) = .ok () ((W.alloc o).alloc (.cells tabCs 29)) := by
  have e : (W.alloc o).heap.size = W.heap.size + 1 := by simp
  rw [← e]
  exact tab_store _ c hc

theorem tab_cell2 (W : World) (o : Obj) (k : Nat) (h : k < 16) : ((W.alloc o).alloc (.cells tabCs 29)).cell? ⟨W.heap.size + 1, k, none⟩ = some (.int .u64 (Dec.pw k)) := by
  have e : (W.alloc o).heap.size = W.heap.size + 1 := by simp
  rw [← e, cell_of_row _ _ _ _ _ _ (heap_alloc_last _ _), tab_at k h]

theorem tab_cell (W : World) (k : Nat) (h : k < 16) : (W.alloc (.cells tabCs 29)).cell? ⟨W.heap.size, k, none⟩ = some (.int .u64 (Dec.pw k)) := by
  rw [cell_of_row _ _ _ _ _ _ (heap_alloc_last W _), tab_at k h]

set_option maxHeartbeats 1000000 in
theorem rFactor_any (a h : Int) (ha0 : -9223372036854775808 ≤ a) (ha : a ≤ 9223372036854775807) (hh0 : -9223372036854775808 ≤ h) (hh : h ≤ 9223372036854775807) (w : World) :
    Calls Tryd.prog 9 #[.int .i64 a, .int .i64 h] w (RetGrown (.int .u64 (Dec.fac a h)) w) := by
  obtain ⟨A, eA⟩ : ∃ A, max a 0 = A := ⟨_, rfl⟩
  obtain ⟨H, eH⟩ : ∃ H, max h 1 = H := ⟨_, rfl⟩
  have b1 : 0 ≤ A := by omega
  have b2 : A ≤ 9223372036854775807 := by omega
  have b3 : 1 ≤ H := by omega
  have b4 : H ≤ 9223372036854775807 := by omega
  have m0 := Int.emod_nonneg A (by omega : H ≠ 0)
  have m1 := Int.emod_lt_of_pos A (by omega : 0 < H)
  have q0 := Int.ediv_nonneg b1 (by omega : 0 ≤ H)
  have q1 := Int.ediv_le_self H b1
  obtain ⟨R, eR⟩ : ∃ R, A % H = R := ⟨_, rfl⟩
  obtain ⟨q, eq⟩ : ∃ q, A / H = q := ⟨_, rfl⟩
  have fin : Dec.fac a h = Dec.acc (Fx.ratio R H) 16 / 2 ^ q.toNat := by unfold Dec.fac; rw [eA, eH, eR, eq]
  rw [eR] at m0 m1
  rw [eq] at q0 q1
  have rr : 0 ≤ Fx.ratio R H ∧ Fx.ratio R H ≤ 18446744073709551615 := Fx.quo_range _ _ (Fx.nonneg_range _ (by omega)).1 (Fx.nonneg_range _ (by omega)).1
  obtain ⟨p, ep⟩ : ∃ p, Fx.ratio R H = p := ⟨_, rfl⟩
  rw [ep] at rr fin
  obtain ⟨rr0, rr1⟩ := rr
  have F := Lib.hid fin; clear fin
  have hz : (H == 0) = false := by simp; omega
  have e1 : A.tmod H = R := (Int.tmod_eq_emod_of_nonneg b1).trans eR
  have e2 : A.tdiv H = q := (Int.tdiv_eq_ediv_of_nonneg b1).trans eq
  go_enter Tryd.func9, Tryd.ntmps9
  go_wp2_with fail
  go_quiet (fail)
  have EP := Lib.hid ep; have ER := Lib.hid eR; have EQ := Lib.hid eq; have EA := Lib.hid eA; have EH := Lib.hid eH
  clear e1 e2 ep eR eq eA eH
  have g0 : Grown w (w.drewN nq) := Grown.refl w
  generalize w.drewN nq = W at *
  go_wp2_with fail
  refine (rRatio_any _ _ (by omega) (by omega) (by omega) (by omega) _).mono ?_
  rintro e w' ⟨rfl, rfl⟩
  rw [EP.out]
  go_wp2_with fail
  refine (rTable_any _).mono ?_
  rintro e w' ⟨rfl, rfl⟩
  have hs := tab_size
  have hst := tab_store2 W
  go_wp2_with fail
  go_loop [9, 10] (fun x i => ∃ k : Nat, k ≤ 16 ∧ i = .int .i64 k ∧ x = .int .u64 (Dec.acc p k)) (fun _ i => 16 - (intOf i).toNat)
  case atStart => exact ⟨0, by omega, rfl, rfl⟩
  case round =>
    obtain ⟨k, hk, rfl, rfl⟩ := hrel
    by_cases hlt : k < 16
    · have hi := tab_cell2 W (.cells tabCs 29) k hlt
      have g := Dec.acc_range p k
      have pr := Dec.pw_range k
      have hp0 : 0 ≤ p / 65536 / 2 ^ (15 - k) := Int.ediv_nonneg (by omega) (Int.le_of_lt (Dec.pow_pos _))
      have hp1 : p / 65536 / 2 ^ (15 - k) ≤ p / 65536 := Int.ediv_le_self _ (by omega)
      have hv := bit_one _ hp0 (by omega)
      have hs : Dec.acc p (k + 1) = if Dec.bit p k then Fx.mul (Dec.acc p k) (Dec.pw k) else Dec.acc p k := rfl
      rw [Dec.bit_upper p k hlt] at hs
      by_cases hb : p / 65536 / 2 ^ (15 - k) % 2 = 1
      · have hbit : (bits .and .u64 (p / 65536 / 2 ^ (15 - k)) 1 == 1) = true := by rw [hv, hb]; rfl
        rw [decide_eq_true hb, if_pos rfl] at hs
        have HS := Lib.hid hs
        clear hs hv hb hp0 hp1
        go_wp2_with (go_at_call 14; refine (rMul_any _ _ g.1 (by omega) pr.1 (by omega) _).mono ?_; rintro e w' ⟨rfl, rfl⟩)
        go_round
        case rel => exact ⟨k + 1, by omega, by go_num, by rw [HS.out]⟩
        case measure => simp [intOf]; omega
      · have hbit : (bits .and .u64 (p / 65536 / 2 ^ (15 - k)) 1 == 1) = false := by rw [hv]; simpa using hb
        rw [decide_eq_false hb, if_neg (by decide)] at hs
        have HS := Lib.hid hs
        clear hs hv hb hp0 hp1
        go_wp2
        go_round
        case rel => exact ⟨k + 1, by omega, by go_num, by rw [HS.out]⟩
        case measure => simp [intOf]; omega
    · obtain rfl : k = 16 := by omega
      obtain ⟨X, eX⟩ : ∃ X, Dec.acc p 16 = X := ⟨_, rfl⟩
      have xr := Dec.acc_range p 16
      rw [eX] at xr
      have F2 : Hid (Dec.fac a h = X / 2 ^ q.toNat) := F.out.trans (by rw [eX])
      obtain ⟨x0, x1⟩ := xr
      go_wp2
      have EX := Lib.hid eX; clear eX
      go_loop [9, 11] (fun x i => ∃ j : Nat, j ≤ q.toNat ∧ i = .int .i64 j ∧ x = .int .u64 (X / 2 ^ j)) (fun _ i => q.toNat - (intOf i).toNat)
      case atStart => exact ⟨0, by omega, rfl, by simp⟩
      case round =>
        obtain ⟨j, hj, rfl, rfl⟩ := hrel
        have d0 : 0 ≤ X / 2 ^ j := Int.ediv_nonneg x0 (Int.le_of_lt (Dec.pow_pos _))
        have d1 : X / 2 ^ j ≤ X := Int.ediv_le_self _ x0
        by_cases hq : (j : Int) < q
        · by_cases hx : 0 < X / 2 ^ j
          · have hh := Dec.halve X j
            have HH := Lib.hid hh; clear hh
            go_wp2
            go_round
            case rel => exact ⟨j + 1, by omega, by go_num, by rw [← HH.out]⟩
            case measure => simp [intOf]; omega
          · have hg := Dec.gone X j q.toNat x0 (by omega) hj
            have HG := Lib.hid hg; clear hg
            go_wp2
            go_ret
            exact retGrown_u64 (by rw [F2.out, HG.out]; omega) rfl ((g0.alloc _ _).alloc _ _)
        · go_wp2
          go_ret
          exact retGrown_u64 (by rw [F2.out, show q.toNat = j from by omega]) rfl ((g0.alloc _ _).alloc _ _)

set_option maxHeartbeats 400000 in
theorem rApply_any (x a h : Int) (x0 : 0 ≤ x) (x1 : x ≤ 18446744073709551615) (ha0 : -9223372036854775808 ≤ a) (ha : a ≤ 9223372036854775807) (hh0 : -9223372036854775808 ≤ h) (hh : h ≤ 9223372036854775807) (w : World) :
    Calls Tryd.prog 12 #[.int .u64 x, .int .i64 a, .int .i64 h] w (RetGrown (.int .u64 (Fx.mul x (Dec.fac a h))) w) := by
  have r := Dec.fac_range a h
  go_enter Tryd.func12, Tryd.ntmps12
  go_wp2_with fail
  refine (rFactor_any _ _ ha0 ha hh0 hh _).mono ?_
  rintro e w' ⟨rfl, g⟩
  go_wp2_with fail
  refine (rMul_any _ _ x0 x1 r.1 (by omega) _).mono ?_
  rintro e w' ⟨rfl, rfl⟩
  go_wp2_with fail
  go_ret
  exact ⟨rfl, g⟩

theorem tab_last (W : World) : (Instr.index 29 (.agg tabCs) (.int .i64 15)).run Tryd.prog W = .ok (.int .u64 4294921869) W := by kernel_rfl

set_option maxHeartbeats 400000 in
theorem awake2_any (w : World) (ht : HasTab w) :
    Calls Tryd.prog 10 #[] w (RetGrown (.bool true) w) := by
  have f1 : Dec.fac 0 10 = 4294967296 := by decide
  have f2 : Dec.fac 10 10 = 2147483648 := by decide
  have f3 : Dec.fac 5 10 = 3037000499 := by decide
  have f4 : Dec.fac 640 10 = 0 := by decide
  have F1 := Lib.hid f1; have F2 := Lib.hid f2; have F3 := Lib.hid f3; have F4 := Lib.hid f4
  clear f1 f2 f3 f4
  have hl := tab_last
  go_enter Tryd.func10, Tryd.ntmps10
  go_wp2_with fail
  refine (Factor_any _ _ (by decide) (by decide) (by decide) (by decide) _ ht).mono ?_
  rintro e w' ⟨rfl, n1, rfl⟩
  rw [F1.out]
  go_wp2_with fail
  refine (Factor_any _ _ (by decide) (by decide) (by decide) (by decide) _ (ht.drewN _)).mono ?_
  rintro e w' ⟨rfl, n2, rfl⟩
  rw [F2.out]
  go_wp2_with fail
  refine (Factor_any _ _ (by decide) (by decide) (by decide) (by decide) _ (ht.drewN _)).mono ?_
  rintro e w' ⟨rfl, n3, rfl⟩
  rw [F3.out]
  go_wp2_with fail
  refine (Factor_any _ _ (by decide) (by decide) (by decide) (by decide) _ (ht.drewN _)).mono ?_
  rintro e w' ⟨rfl, n4, rfl⟩
  rw [F4.out]
  go_wp2_with fail
  refine (Table_any _ (ht.drewN _)).mono ?_
  rintro e w' ⟨rfl, rfl⟩
  go_wp2_with fail
  go_ret
  exact ⟨rfl, (Grown.refl w : Grown w (w.drewN _)).alloc _ _⟩

end Go.Proofs.YtkmceioojdhggaaDoor

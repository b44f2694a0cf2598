import Derived.Test.YtkmceioojdhggaaDoorFixptE
import Derived.Test.YtkmceioojdhggaaDoorDec
import Derived.Test.YtkmceioojdhggaaDoorOver
import Derived.Laws.Rows
import Derived.Deep.WholeRow
import Derived.Deep.Draws
namespace Go.Proofs.YtkmceioojdhggaaDoor
open Go.RowKit
set_option linter.unusedVariables false

/-- The table's cells. -/
def tabCs : Array Value := (Dec.tab.map (Value.int .u64)).toArray
/-- The variable decay.powers holds the table. -/
def HasTab (w : World) : Prop := ∃ t fr, w.heap[0]? = some (.cells tabCs t fr)

theorem HasTab.below {w w' : World} (h : HasTab w) (b : Below w.heap.size w w') : HasTab w' := by
  obtain ⟨t, fr, hg⟩ := h
  exact ⟨t, fr, by rw [b.block _ (by have := (Array.getElem?_eq_some_iff.1 hg).1; exact this)]; exact hg⟩

theorem HasTab.alloc {w : World} (h : HasTab w) (o : Obj) : HasTab (w.alloc o) := h.below ((Below.refl _ _).alloc (Nat.le_refl _) o)

theorem HasTab.drewN {w : World} (h : HasTab w) (n : Nat) : HasTab (w.drewN n) := h

theorem ld_tab {ops : Array Oper} {rest : List Oper} {o : Oper} {a : Act} {w : World} {Q : Exit → Act → World → Prop} (hgd : o.guard = none) (x : Operand) (ho : o.op = .load 29 x)
    (hx : a.eval x = .pointer (some ⟨0, 0, none⟩)) (hw : HasTab w)
    (h : wpList Tryd.prog ops Q rest (a.put o.dst (.agg tabCs)) w) : wpList Tryd.prog ops Q (o :: rest) a w := by
  obtain ⟨t, fr, hg⟩ := hw
  exact wpList_load_row hgd _ x ho 0 hx t tabCs fr _ hg Tryd.underlying29 rfl (by kernel_rfl) h

theorem idx_tab (k : Nat) (h : k < 16) (w : World) : (Instr.index 29 (.agg tabCs) (.int .i64 (k : Int))).run Tryd.prog w = .ok (.int .u64 (Dec.pw k)) w := by
  have hk : k = 0 ∨ k = 1 ∨ k = 2 ∨ k = 3 ∨ k = 4 ∨ k = 5 ∨ k = 6 ∨ k = 7 ∨ k = 8 ∨ k = 9 ∨ k = 10 ∨ k = 11 ∨ k = 12 ∨ k = 13 ∨ k = 14 ∨ k = 15 := by omega
  rcases hk with rfl | rfl | rfl | rfl | rfl | rfl | rfl | rfl | rfl | rfl | rfl | rfl | rfl | rfl | rfl | rfl <;> (show _ = _; kernel_rfl)

set_option maxHeartbeats 400000 in
theorem within_any (r h : Int) (hr : 0 ≤ r) (hh : r < h) (hh' : h ≤ 9223372036854775807) (w : World) (ht : HasTab w) :
    Calls Tryd.prog 16 #[.int .i64 r, .int .i64 h] w (RetDrew (.int .u64 (Dec.acc (Fx.ratio r h) 16)) w) := by
  have rr : 0 ≤ Fx.ratio r h ∧ Fx.ratio r h ≤ 18446744073709551615 := Fx.quo_range _ _ (Fx.nonneg_range r (by omega)).1 (Fx.nonneg_range h (by omega)).1
  go_enter Tryd.func16, Tryd.ntmps16
  go_wp2_with fail
  refine (Ratio_any _ _ (by omega) (by omega) (by omega) (by omega) _).mono ?_
  rintro e w' ⟨rfl, n, rfl⟩
  go_wp2_with (refine ld_tab rfl _ rfl rfl (ht.drewN _) ?_)
  go_loop [6, 13] (fun x i => ∃ k : Nat, k ≤ 16 ∧ i = .int .i64 k ∧ x = .int .u64 (Dec.acc (Fx.ratio r h) k)) (fun _ i => 16 - (intOf i).toNat)
  case atStart => exact ⟨0, by omega, rfl, rfl⟩
  case round =>
    obtain ⟨k, hk, rfl, rfl⟩ := hrel
    by_cases hlt : k < 16
    · have hi := idx_tab k hlt
      have g := Dec.acc_range (Fx.ratio r h) k
      have pr := Dec.pw_range k
      have hp0 : 0 ≤ Fx.ratio r h / 2 ^ (31 - k) := Int.ediv_nonneg rr.1 (Int.le_of_lt (Dec.pow_pos _))
      have hp1 : Fx.ratio r h / 2 ^ (31 - k) ≤ Fx.ratio r h := Int.ediv_le_self _ rr.1
      have hv := bit_one _ hp0 (by omega)
      have hs : Dec.acc (Fx.ratio r h) (k + 1) = if Dec.bit (Fx.ratio r h) k then Fx.mul (Dec.acc (Fx.ratio r h) k) (Dec.pw k) else Dec.acc (Fx.ratio r h) k := rfl
      by_cases hb : Fx.ratio r h / 2 ^ (31 - k) % 2 = 1
      · have hbit : (bits .and .u64 (Fx.ratio r h / 2 ^ (31 - k)) 1 == 1) = true := by rw [hv, hb]; rfl
        have hd : Dec.bit (Fx.ratio r h) k = true := by unfold Dec.bit; exact decide_eq_true hb
        rw [hd, if_pos rfl] at hs
        have HS := Lib.hid hs
        clear hs hd hv hb hp0 hp1
        go_wp2_with (go_at_call 18; refine (Mul_any _ _ g.1 (by omega) pr.1 (by omega) _).mono ?_; rintro e w' ⟨rfl, rfl⟩)
        go_round
        case rel => exact ⟨k + 1, by omega, by go_num, by rw [HS.out]⟩
        case measure => simp [intOf]; omega
      · have hbit : (bits .and .u64 (Fx.ratio r h / 2 ^ (31 - k)) 1 == 1) = false := by rw [hv]; simpa using hb
        have hd : Dec.bit (Fx.ratio r h) k = false := by unfold Dec.bit; exact decide_eq_false hb
        rw [hd, if_neg (by decide)] at hs
        have HS := Lib.hid hs
        clear hs hd hv hb hp0 hp1
        go_wp2
        go_round
        case rel => exact ⟨k + 1, by omega, by go_num, by rw [HS.out]⟩
        case measure => simp [intOf]; omega
    · go_wp2
      go_ret
      have : k = 16 := by omega
      subst this
      exact ⟨rfl, _, rfl⟩

theorem tab_size : tabCs.size = 16 := by kernel_rfl

theorem tab_all : tabCs.all (·.oneCell') = true := by kernel_rfl

theorem tab_at (k : Nat) (h : k < 16) : tabCs[k]? = some (.int .u64 (Dec.pw k)) := by
  have hk : k = 0 ∨ k = 1 ∨ k = 2 ∨ k = 3 ∨ k = 4 ∨ k = 5 ∨ k = 6 ∨ k = 7 ∨ k = 8 ∨ k = 9 ∨ k = 10 ∨ k = 11 ∨ k = 12 ∨ k = 13 ∨ k = 14 ∨ k = 15 := by omega
  rcases hk with rfl | rfl | rfl | rfl | rfl | rfl | rfl | rfl | rfl | rfl | rfl | rfl | rfl | rfl | rfl | rfl <;> rfl

theorem tab_store (W : World) (c : Array Value) (hc : c.size = 16) : (storeCells ⟨W.heap.size, 0, none⟩ tabCs.toList 0).run Tryd.prog (W.alloc (.cells c 29)) = .ok () (W.alloc (.cells tabCs 29)) :=
  run_storeCells_new W _ c tabCs (by kernel_rfl) (hc.trans tab_size.symm) tab_all

set_option maxHeartbeats 400000 in
theorem Table_any (w : World) (ht : HasTab w) :
    Calls Tryd.prog 13 #[] w fun e w' => e = .returned (.agg tabCs) ∧ w' = w.alloc (.cells tabCs 29) := by
  have hs := tab_size
  have hst := tab_store w
  go_enter Tryd.func13, Tryd.ntmps13
  go_wp2_with (refine ld_tab rfl _ rfl rfl (ht.alloc _) ?_)
  exact bodyPost_ret (results_cell_row (p := 0) (by kernel_rfl) _ _ w.heap.size _ _ _ _ rfl (heap_alloc_last w _) Tryd.underlying29 rfl (by kernel_rfl)) rfl ⟨rfl, rfl⟩

set_option maxHeartbeats 400000 in
theorem Factor_any (a h : Int) (ha0 : -9223372036854775808 ≤ a) (ha : a ≤ 9223372036854775807) (hh0 : -9223372036854775808 ≤ h) (hh : h ≤ 9223372036854775807) (w : World) (ht : HasTab w) :
    Calls Tryd.prog 8 #[.int .i64 a, .int .i64 h] w (RetDrew (.int .u64 (Dec.fac a h)) w) := by
  obtain ⟨A, eA⟩ : ∃ A, max a 0 = A := ⟨_, rfl⟩
  obtain ⟨H, eH⟩ : ∃ H, max h 1 = H := ⟨_, rfl⟩
  have b1 : 0 ≤ A := by omega
  have b2 : A ≤ 9223372036854775807 := by omega
  have b3 : 1 ≤ H := by omega
  have b4 : H ≤ 9223372036854775807 := by omega
  have m0 := Int.emod_nonneg A (by omega : H ≠ 0)
  have m1 := Int.emod_lt_of_pos A (by omega : 0 < H)
  have q0 := Int.ediv_nonneg b1 (by omega : 0 ≤ H)
  have q1 := Int.ediv_le_self H b1
  have fin : Dec.fac a h = Dec.acc (Fx.ratio (A % H) H) 16 / 2 ^ (A / H).toNat := by unfold Dec.fac; rw [eA, eH]
  have F := Lib.hid fin; clear fin
  have hz : (H == 0) = false := by simp; omega
  go_enter Tryd.func8, Tryd.ntmps8
  go_wp2_with fail
  have e1 : A.tmod H = A % H := Int.tmod_eq_emod_of_nonneg b1
  have e2 : A.tdiv H = A / H := Int.tdiv_eq_ediv_of_nonneg b1
  go_quiet ((go_at_call 16; exact Calls.quiet_of (within_any _ _ m0 m1 b4 _ (ht.drewN _))))
  have r := Dec.acc_range (Fx.ratio (A % H) H) 16
  have e3 := Dec.shift_most _ (A / H).toNat r.1 r.2
  rw [e3]
  go_wp2
  go_ret
  exact retDrew_u64 F.out.symm rfl ⟨_, rfl⟩

set_option maxHeartbeats 400000 in
theorem Apply_any (x a h : Int) (x0 : 0 ≤ x) (x1 : x ≤ 18446744073709551615) (ha0 : -9223372036854775808 ≤ a) (ha : a ≤ 9223372036854775807) (hh0 : -9223372036854775808 ≤ h) (hh : h ≤ 9223372036854775807) (w : World) (ht : HasTab w) :
    Calls Tryd.prog 11 #[.int .u64 x, .int .i64 a, .int .i64 h] w (RetDrew (.int .u64 (Fx.mul x (Dec.fac a h))) w) := by
  have r := Dec.fac_range a h
  go_enter Tryd.func11, Tryd.ntmps11
  go_wp2_with fail
  refine (Factor_any _ _ ha0 ha hh0 hh _ ht).mono ?_
  rintro e w' ⟨rfl, n, rfl⟩
  go_wp2_with fail
  refine (Mul_any _ _ x0 x1 r.1 (by omega) _).mono ?_
  rintro e w' ⟨rfl, rfl⟩
  go_wp2_with fail
  go_ret
  exact ⟨rfl, _, rfl⟩

end Go.Proofs.YtkmceioojdhggaaDoor

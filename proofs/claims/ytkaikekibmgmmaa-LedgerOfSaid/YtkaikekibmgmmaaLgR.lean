/- Ledgers: the statement's walk: what is used while gangs run. -/
import Derived.Test.YtkaikekibmgmmaaLgC
import Derived.Test.YtkaikekibmgmmaaBarr
namespace Go.Proofs.Ytkaikekibmgmmaa
open Go.RowKit
set_option linter.unusedVariables false

set_option maxHeartbeats 2000000 in
set_option maxRecDepth 8000 in
theorem LedgerOf_walk (C : LgC) {c : Cmd} {vn vh : Value} {rs : List Rv} {ar : Option Addr} {cr rb ro : Nat} {w : World} (h : CmAt c vn vh w) (hw : c.wide) (hR : Sl Rv.c 48 14 w ar cr rb ro rs) (hu : ∀ x ∈ rs, x.r.wide ∧ x.at w) :
    Calls Try.prog 4 #[.agg (c.f vn vh), .slice ar rs.length cr] w (RetBelow (.bool true) w) := by
  have cA := Lib.hid (lgAwake_any C)
  have ck := fun w2 (g : Below w.heap.size w w2) => rCheck9At (h.kept g)
  have cp := fun (e : Cf.check c = 0) (e2 : rs.length ≤ 200) w2 (g : Below w.heap.size w w2) => C.of_ (h.kept g) hw e (hR.kept g) (fun x hx => ⟨(hu x hx).1, (hu x hx).2.kept g⟩) e2
  have cx := fun (e : Cf.check c = 0) w2 (g : Below w.heap.size w w2) => rOf12 (h.kept g) (Qt.check_few e) (hR.kept g)
  have hlen : (Lg.ofAll c.nodes rs).length = c.nodes.length := by rw [Lg.ofAll, Lg.ofL_len, List.length_replicate]
  have hl12 := fun (e : Cf.check c = 0) => Qt.check_few e
  obtain ⟨an, nl, cn, ah, lh, ch, rfl, rfl⟩ := h.slices
  have hln : nl = c.nodes.length := by
    obtain ⟨_, _, _, _, _, _, _, _, e1, _⟩ := h
    injection e1
  have r63 := hR.small
  obtain ⟨CK, hCK⟩ : ∃ x, Cf.check c = x := ⟨_, rfl⟩
  rw [hCK] at ck cp cx hl12
  rw [← hln] at cx hlen hl12
  obtain ⟨A, hA⟩ : ∃ a, Lg.ofAll c.nodes rs = a := ⟨_, rfl⟩
  rw [hA] at cp cx hlen
  obtain ⟨rl, hrl⟩ : ∃ n, rs.length = n := ⟨_, rfl⟩
  rw [hrl] at cp cx r63 ⊢
  obtain ⟨zr, hzr⟩ : ∃ z : Int, (rl : Int) = z := ⟨_, rfl⟩
  simp only [Cmd.f] at ck cp cx ⊢
  obtain ⟨half, hha⟩ : ∃ x, c.half = x := ⟨_, rfl⟩
  obtain ⟨age, hag⟩ : ∃ x, c.age = x := ⟨_, rfl⟩
  rw [hha, hag] at ck cp cx ⊢
  have CK1 := Lib.hid ck; have CP := Lib.hid cp; have CX := Lib.hid cx; have HLEN := Lib.hid hlen; have HL12 := Lib.hid hl12
  clear ck cp cx hlen hl12 h hR hu hln hCK hA hha hag hw hrl
  have box0 := Row.new w #[.slice an nl cn, .slice ah lh ch, .int .i64 half, .int .i64 age] 25
  have g0 := (Below.refl w.heap.size w).alloc (Nat.le_refl _) (.cells #[.slice an nl cn, .slice ah lh ch, .int .i64 half, .int .i64 age] 25)
  go_enter Try.func4, Try.ntmps4
  go_upto_region 1 with fail
  obtain ⟨w0, hw0⟩ : ∃ v, w.alloc (.cells #[.slice an nl cn, .slice ah lh ch, .int .i64 half, .int .i64 age] 25) = v := ⟨_, rfl⟩
  rw [hw0] at box0 g0 ⊢
  clear hw0
  have B0 := Lib.hid box0; have G0 := Lib.hid g0
  clear box0 g0
  have d0 : w0.cell? ⟨w.heap.size, 0, none⟩ = some (.slice an nl cn) := B0.out.at_ 0
  have d1 : w0.cell? ⟨w.heap.size, 1, none⟩ = some (.slice ah lh ch) := B0.out.at_ 1
  have d2 : w0.cell? ⟨w.heap.size, 2, none⟩ = some (.int .i64 half) := B0.out.at_ 2
  have d3 : w0.cell? ⟨w.heap.size, 3, none⟩ = some (.int .i64 age) := B0.out.at_ 3
  go_wp2_with fail
  refine (CK1.out _ G0.out).mono ?_
  rintro er w1 ⟨rfl, b1⟩
  have G1 := Lib.hid (below_trans G0.out b1); have B1 := Lib.hid (B0.out.under b1)
  clear b1 d0 d1 d2 d3
  obtain hc0 | hc0 := (Decidable.em (CK = 0)).symm
  · go_wp2_with fail
    refine (cA.out _).mono ?_
    rintro er wz ⟨rfl, bz⟩
    have GZ := Lib.hid (below_trans G1.out bz); clear bz
    go_wp2_with fail
    go_ret
    exact ⟨rfl, GZ.out⟩
  subst hc0
  by_cases hr2 : 200 < zr
  · go_wp2_with fail
    refine (cA.out _).mono ?_
    rintro er wz ⟨rfl, bz⟩
    have GZ := Lib.hid (below_trans G1.out bz); clear bz
    go_wp2_with fail
    go_ret
    exact ⟨rfl, GZ.out⟩
  have CPP := Lib.hid (CP.out (by trivial) (by omega)); have CXX := Lib.hid (CX.out (by trivial)); have L12 := Lib.hid (HL12.out (by trivial))
  clear CP CX HL12
  have d0 : w1.cell? ⟨w.heap.size, 0, none⟩ = some (.slice an nl cn) := B1.out.at_ 0
  have d1 : w1.cell? ⟨w.heap.size, 1, none⟩ = some (.slice ah lh ch) := B1.out.at_ 1
  have d2 : w1.cell? ⟨w.heap.size, 2, none⟩ = some (.int .i64 half) := B1.out.at_ 2
  have d3 : w1.cell? ⟨w.heap.size, 3, none⟩ = some (.int .i64 age) := B1.out.at_ 3
  go_upto_region 3 with fail
  have BD := Lib.hid (B1.out.under (below_drewN (Below.refl w1.heap.size w1) 1))
  have GD := Lib.hid (below_drewN G1.out 1)
  have D0 := Lib.hid (show (fun w' => w'.cell? ⟨w.heap.size, 0, none⟩ = some (.slice an nl cn) ∧ w'.cell? ⟨w.heap.size, 1, none⟩ = some (.slice ah lh ch) ∧ w'.cell? ⟨w.heap.size, 2, none⟩ = some (.int .i64 half) ∧ w'.cell? ⟨w.heap.size, 3, none⟩ = some (.int .i64 age)) (w1.drewN 1) from And.intro (BD.out.at_ 0) (And.intro (BD.out.at_ 1) (And.intro (BD.out.at_ 2) (BD.out.at_ 3))))
  clear d0 d1 d2 d3
  refine wp_region_barr (fun w' => w'.cell? ⟨w.heap.size, 0, none⟩ = some (.slice an nl cn) ∧ w'.cell? ⟨w.heap.size, 1, none⟩ = some (.slice ah lh ch) ∧ w'.cell? ⟨w.heap.size, 2, none⟩ = some (.int .i64 half) ∧ w'.cell? ⟨w.heap.size, 3, none⟩ = some (.int .i64 age)) 10 (by kernel_rfl) ?_
  refine barr_take (v := ?v1) 1 rfl (by decide) (by kernel_rfl) (by kernel_rfl) (by kernel_rfl) (fun _ _ _ h => h) (.inl ⟨by rfl, ?hy1⟩) (.inr D0.out) ?rest1
  case hy1 => intro w hSw; (try go_simp); (try with_reducible rfl)
  try simp only [Act.put, List.setIfInBounds_toArray, List.set_cons_zero, List.set_cons_succ]
  refine barr_take (v := ?v4) 4 rfl (by decide) (by kernel_rfl) (by kernel_rfl) (by kernel_rfl) (fun _ _ _ h => h) (.inl ⟨by rfl, ?hy4⟩) (.inr D0.out) ?rest4
  case hy4 => intro w hSw; (try go_simp); (try with_reducible rfl)
  try simp only [Act.put, List.setIfInBounds_toArray, List.set_cons_zero, List.set_cons_succ]
  refine barr_load (v := ?v0) 0 rfl (by decide) (by kernel_rfl) (by kernel_rfl) (by kernel_rfl) (by kernel_rfl) (by kernel_rfl) (fun _ _ _ h => h) (.inl ⟨by rfl, ?hy0⟩) D0.out ?rest0
  case hy0 =>
    intro w hSw
    obtain ⟨h0, h1, h2, h3⟩ := hSw
    (try go_simp); (try with_reducible rfl)
  try simp only [Act.put, List.setIfInBounds_toArray, List.set_cons_zero, List.set_cons_succ]
  refine barr_load (v := ?v3) 3 rfl (by decide) (by kernel_rfl) (by kernel_rfl) (by kernel_rfl) (by kernel_rfl) (by kernel_rfl) (fun _ _ _ h => h) (.inl ⟨by rfl, ?hy3⟩) D0.out ?rest3
  case hy3 =>
    intro w hSw
    obtain ⟨h0, h1, h2, h3⟩ := hSw
    (try go_simp); (try with_reducible rfl)
  try simp only [Act.put, List.setIfInBounds_toArray, List.set_cons_zero, List.set_cons_succ]
  refine barr_step 2 rfl (by kernel_rfl) ?_
  intro K hK
  go_simp
  refine (CPP.out _ GD.out).mono ?_
  rintro er w2 ⟨ao2, cap2, b2, rfl, sl2, bl2⟩
  have BD2 := Lib.hid (BD.out.under bl2)
  have D2 := And.intro (BD2.out.at_ 0) (And.intro (BD2.out.at_ 1) (And.intro (BD2.out.at_ 2) (BD2.out.at_ 3)))
  have A2 := Lib.hid sl2; have BL2 := Lib.hid (below_trans GD.out bl2)
  clear sl2 bl2
  refine hK.out _ _ (.inr D2) ?_
  clear D2
  clear hK K
  try simp only [Act.put, List.setIfInBounds_toArray, List.set_cons_zero, List.set_cons_succ]
  refine barr_step 5 rfl (by kernel_rfl) ?_
  intro K hK
  go_simp
  refine (CXX.out _ BL2.out).mono ?_
  rintro er w3 ⟨rfl, r3, bl3⟩
  have BD3 := Lib.hid (BD2.out.under bl3)
  have D3 := And.intro (BD3.out.at_ 0) (And.intro (BD3.out.at_ 1) (And.intro (BD3.out.at_ 2) (BD3.out.at_ 3)))
  have cl0 := rList3 A A (A2.out.kept bl3) (row_sl r3 (by rw [HLEN.out]; have := L12.out; omega) nl)
  rw [show decide (A = A) = true by simp] at cl0
  rw [HLEN.out] at cl0
  have CLI := Lib.hid cl0; have BL3 := Lib.hid (below_trans BL2.out bl3)
  clear r3 bl3 cl0
  refine hK.out _ _ (.inr D3) ?_
  clear D3
  clear hK K
  try simp only [Act.put, List.setIfInBounds_toArray, List.set_cons_zero, List.set_cons_succ]
  refine barr_step 6 rfl (by kernel_rfl) ?_
  intro K hK
  go_simp
  rw [HLEN.out]
  refine CLI.out.mono ?_
  rintro er w4 ⟨rfl, bl4⟩
  have BD4 := Lib.hid (BD3.out.under bl4)
  have D4 := And.intro (BD4.out.at_ 0) (And.intro (BD4.out.at_ 1) (And.intro (BD4.out.at_ 2) (BD4.out.at_ 3)))
  have BL4 := Lib.hid (below_trans BL3.out bl4)
  clear bl4
  refine hK.out _ _ (.inr D4) ?_
  clear D4
  clear hK K
  try simp only [Act.put, List.setIfInBounds_toArray, List.set_cons_zero, List.set_cons_succ]
  have E4 := Lib.hid (show (fun w' => w'.cell? ⟨w.heap.size, 0, none⟩ = some (.slice an nl cn) ∧ w'.cell? ⟨w.heap.size, 1, none⟩ = some (.slice ah lh ch) ∧ w'.cell? ⟨w.heap.size, 2, none⟩ = some (.int .i64 half) ∧ w'.cell? ⟨w.heap.size, 3, none⟩ = some (.int .i64 age)) w4 from And.intro (BD4.out.at_ 0) (And.intro (BD4.out.at_ 1) (And.intro (BD4.out.at_ 2) (BD4.out.at_ 3))))
  refine barr_step 7 rfl (by kernel_rfl) ?_
  intro K hK
  go_simp
  refine hK.out _ _ (.inr E4.out) ?_
  clear hK K
  try simp only [Act.put, List.setIfInBounds_toArray, List.set_cons_zero, List.set_cons_succ]
  refine barr_step 8 rfl (by kernel_rfl) ?_
  intro K hK
  go_simp
  refine (cA.out _).mono ?_
  rintro er w5 ⟨rfl, bl5⟩
  have BD5 := Lib.hid (BD4.out.under bl5)
  have D5 := And.intro (BD5.out.at_ 0) (And.intro (BD5.out.at_ 1) (And.intro (BD5.out.at_ 2) (BD5.out.at_ 3)))
  have BL5 := Lib.hid (below_trans BL4.out bl5)
  clear bl5
  refine hK.out _ _ (.inr D5) ?_
  clear D5
  clear hK K
  try simp only [Act.put, List.setIfInBounds_toArray, List.set_cons_zero, List.set_cons_succ]
  have E5 := Lib.hid (show (fun w' => w'.cell? ⟨w.heap.size, 0, none⟩ = some (.slice an nl cn) ∧ w'.cell? ⟨w.heap.size, 1, none⟩ = some (.slice ah lh ch) ∧ w'.cell? ⟨w.heap.size, 2, none⟩ = some (.int .i64 half) ∧ w'.cell? ⟨w.heap.size, 3, none⟩ = some (.int .i64 age)) w5 from And.intro (BD5.out.at_ 0) (And.intro (BD5.out.at_ 1) (And.intro (BD5.out.at_ 2) (BD5.out.at_ 3))))
  refine barr_step 9 rfl (by kernel_rfl) ?_
  intro K hK
  go_simp
  refine hK.out _ _ (.inr E5.out) ?_
  clear hK K
  try simp only [Act.put, List.setIfInBounds_toArray, List.set_cons_zero, List.set_cons_succ]
  refine barr_step 10 rfl (by kernel_rfl) ?_
  intro K hK
  go_simp
  refine hK.out _ _ (.inl (by kernel_rfl)) ?_
  clear hK K
  try simp only [Act.put, List.setIfInBounds_toArray, List.set_cons_zero, List.set_cons_succ]
  refine barr_done (by kernel_rfl) ?_ _
  go_wp2_with fail
  go_ret
  exact ⟨rfl, BL5.out⟩

end Go.Proofs.Ytkaikekibmgmmaa

/- The landed ledger: what all use while gangs run; none; what the program is held to. -/
import Derived.Test.YtkaikekibmgmmaaKlC
import Derived.Test.YtkaikekibmgmmaaKlD
import Derived.Test.YtkaikekibmgmmaaKlT
import Derived.Test.YtkaikekibmgmmaaLgC
namespace Go.Proofs.Ytkaikekibmgmmaa
open Go.RowKit
set_option linter.unusedVariables false

theorem run_len12 : (Try.prog.info? 73).map (·.size) = some 14 := by kernel_rfl
theorem gang_len12 : (Try.prog.info? 71).map (·.size) = some 9 := by kernel_rfl

structure OlSo (w : World) (j B r : Nat) (ns : List Nd) (U : List V3) (wr : World) : Prop where
  led : LmAt wr j B r ns U
  low : Below w.heap.size w wr
theorem OlSo.under {w wr wz : World} {j B r : Nat} {ns : List Nd} {U : List V3} (h : OlSo w j B r ns U wr) (g : Below wr.heap.size wr wz) : OlSo w j B r ns U wz := ⟨h.led.under g, below_trans h.low g⟩

set_option maxHeartbeats 2000000 in
set_option maxRecDepth 8000 in
theorem kOf12 {c : Cmd} {vn vh : Value} {w : World} (hC : CmAt c vn vh w) (h12 : c.nodes.length ≤ 12) {rs : List Rv} {ar : Option Addr} {cr rb ro : Nat} (hR : Sl Rv.c 48 14 w ar cr rb ro rs) (hW : ∀ x ∈ rs, x.r.wide ∧ x.at w) :
    Calls Try.prog 20 #[.agg (c.f vn vh), .slice ar rs.length cr] w fun e w' => ∃ bb, e = .returned (.slice (some ⟨bb, 0, none⟩) (Lg.ofAll c.nodes rs).length (Lg.ofAll c.nodes rs).length) ∧ Row w' bb (cellsOf V3.c (Lg.ofAll c.nodes rs)).toArray 35 ∧ Below w.heap.size w w' := by
  have hnew := fun w2 (g : Below w.heap.size w w2) => kNew12 (hC.kept g) h12
  have hun := fun j x h => @Lg.ofTo_succ c.nodes rs j x h
  have hu0 : Lg.ofTo c.nodes rs 0 = List.replicate c.nodes.length Qt.z3 := rfl
  have hue : ∀ j : Int, j = rs.length → Lg.ofTo c.nodes rs j.toNat = Lg.ofAll c.nodes rs := fun j h => by rw [h, Int.toNat_natCast, Lg.ofTo, List.take_length]; rfl
  have hrx := hR.idx
  have r63 := hR.small
  obtain ⟨an, ln, cn, ah, lh, ch, rfl, rfl⟩ := hC.slices
  obtain ⟨A, hA⟩ : ∃ a, Lg.ofAll c.nodes rs = a := ⟨_, rfl⟩
  rw [hA] at hue ⊢
  obtain ⟨U, hU⟩ : ∃ f, Lg.ofTo c.nodes rs = f := ⟨_, rfl⟩
  simp only [hU] at hun hu0 hue
  obtain ⟨kind, ns, hosts, half, age, g, n⟩ := c
  simp only [Cmd.f] at *
  obtain ⟨nl, hnl⟩ : ∃ n, ns.length = n := ⟨_, rfl⟩
  obtain ⟨rl, hrl⟩ : ∃ n, rs.length = n := ⟨_, rfl⟩
  rw [hnl] at hu0
  simp only [hnl] at hnew
  rw [hrl] at hrx r63 hue ⊢
  obtain ⟨zr, hzr⟩ : ∃ z : Int, (rl : Int) = z := ⟨_, rfl⟩
  have al := (Below.refl w.heap.size w).alloc (Nat.le_refl _) (.cells #[.slice an ln cn, .slice ah lh ch, .int .i64 half, .int .i64 age] 25)
  have ra := Row.new w #[.slice an ln cn, .slice ah lh ch, .int .i64 half, .int .i64 age] 25
  obtain ⟨W, hW0⟩ : ∃ V, w.alloc (.cells #[.slice an ln cn, .slice ah lh ch, .int .i64 half, .int .i64 age] 25) = V := ⟨_, rfl⟩
  rw [hW0] at al ra
  have p0 := ra.at_ 0
  have p1 := ra.at_ 1
  have p2 := ra.at_ 2
  have p3 := ra.at_ 3
  simp only [List.getElem?_toArray, List.getElem?_cons_zero, List.getElem?_cons_succ] at p0 p1 p2 p3
  have HNEW := Lib.hid (hnew W al); have AL := Lib.hid al; have HUN := Lib.hid hun; have HU0 := Lib.hid hu0; have HUE := Lib.hid hue; have HRX := Lib.hid hrx; have HR := Lib.hid hR; have HRL := Lib.hid hrl; have HZR := Lib.hid hzr; have HW := Lib.hid hW
  clear hnew hun hu0 hue hrx hR hC hA hU hnl hrl al ra hW
  go_enter Try.func20, Try.ntmps20
  go_upto_region 1 with fail
  clear hW0
  go_wp2_with fail
  refine HNEW.out.mono ?_
  rintro er w1 ⟨j, B, r, rfl, led, b1, hj, hB, hr⟩
  rw [← HU0.out] at led
  have S0 := Lib.hid (show OlSo w j B r (ns.map Lg.bare) (U 0) w1 from ⟨led, below_trans AL.out b1⟩)
  have HRW := Lib.hid (Nat.le_trans AL.out.size hr)
  clear p0 p1 p2 p3 led b1 hj hB hr HNEW
  go_wp2_with fail
  go_loopw [13] (fun i wr => ∃ (k : Int), i = .int .i64 k ∧ 0 ≤ k ∧ k ≤ zr ∧ Hid (OlSo w j B r (ns.map Lg.bare) (U k.toNat) wr)) (fun i _ => (zr - intOf i).toNat)
  case atStart => exact ⟨0, rfl, by omega, by omega, S0.out⟩
  case round =>
    obtain ⟨k, rfl, hk0, hkz, hd⟩ := hrel
    by_cases hlt : k < zr
    · obtain ⟨x, hx⟩ : ∃ x, rs[k.toNat]? = some x := ⟨_, List.getElem?_eq_getElem (by have := HRL.out; omega)⟩
      have hi := HRX.out k.toNat (by omega)
      rw [show ((k.toNat : Nat) : Int) = k by omega] at hi
      have hr := (HR.out.kept hd.out.low).at_ k.toNat x hx
      have hun := HUN.out k.toNat x hx
      have hxw := HW.out x (List.mem_of_getElem? hx)
      have hten : In64 x.r.g.ten := hxw.1.1.2.1
      obtain ⟨ao, cap, bb, oo, hv, _⟩ := hxw.2
      have hlf := fun w9 (h : LmAt w9 j B r (ns.map Lg.bare) (U k.toNat)) => kIsTenant x.r.g.ten h hten
      have hct := fun w9 (h : LmAt w9 j B r (ns.map Lg.bare) (U k.toNat)) => kCount h x.r.g.ten (Lg.dem x.r.g) 36 (fun u => Qt.add u (Lg.dem x.r.g)) (fun _ _ => rfl) (fun u w => kAdd3 u (Lg.dem x.r.g) w)
      have htm := fun w9 => kTimes3 x.r.g.need x.r.g.pods w9
      rw [show Lg.times x.r.g.need x.r.g.pods = Lg.dem x.r.g from rfl] at htm
      rw [Lg.one] at hun
      simp only [Lg.bare_leaf] at hlf
      simp only [Lg.bare_path] at hct
      obtain ⟨D, hD⟩ : ∃ d, Lg.dem x.r.g = d := ⟨_, rfl⟩
      obtain ⟨LF, hLF⟩ : ∃ d, Cf.leaf ns x.r.g.ten = d := ⟨_, rfl⟩
      obtain ⟨P, hP⟩ : ∃ d, Qt.path ns x.r.g.ten = d := ⟨_, rfl⟩
      rw [hD, hLF, hP] at hun
      simp only [hLF] at hlf
      simp only [hD, hP] at hct
      simp only [hD] at htm
      clear hxw hten hD hLF hP
      obtain ⟨⟨⟨g1, g2, g3, ⟨gx, gy, gz⟩, g4, g5, g6⟩, sq, at_, st, fl, hs⟩, v⟩ := x
      simp only at hv
      subst hv
      simp only [Rv.c] at hr hlf hct htm
      obtain ⟨hl, hhl⟩ : ∃ n, hs.length = n := ⟨_, rfl⟩
      rw [hhl] at hr
      obtain ⟨ri, hri⟩ : ∃ n, ro + k.toNat * 14 = n := ⟨_, rfl⟩
      rw [hri] at hi
      simp only [hri] at hr
      have f0 : wr.cell? ⟨rb, ri, none⟩ = some (.int .i64 g1) := hr 0 _ rfl
      have f1 : wr.cell? ⟨rb, ri + 1, none⟩ = some (.int .i64 g2) := hr 1 _ rfl
      have f2 : wr.cell? ⟨rb, ri + 2, none⟩ = some (.int .i64 g3) := hr 2 _ rfl
      have f3 : wr.cell? ⟨rb, ri + 3, none⟩ = some (.int .i64 gx) := hr 3 _ rfl
      have f4 : wr.cell? ⟨rb, ri + 4, none⟩ = some (.int .i64 gy) := hr 4 _ rfl
      have f5 : wr.cell? ⟨rb, ri + 5, none⟩ = some (.int .i64 gz) := hr 5 _ rfl
      have f6 : wr.cell? ⟨rb, ri + 6, none⟩ = some (.int .i64 g4) := hr 6 _ rfl
      have f7 : wr.cell? ⟨rb, ri + 7, none⟩ = some (.int .i64 g5) := hr 7 _ rfl
      have f8 : wr.cell? ⟨rb, ri + 8, none⟩ = some (.int .i64 g6) := hr 8 _ rfl
      have f9 : wr.cell? ⟨rb, ri + 9, none⟩ = some (.int .i64 sq) := hr 9 _ rfl
      have f10 : wr.cell? ⟨rb, ri + 10, none⟩ = some (.int .i64 at_) := hr 10 _ rfl
      have f11 : wr.cell? ⟨rb, ri + 11, none⟩ = some (.int .i64 st) := hr 11 _ rfl
      have f12 : wr.cell? ⟨rb, ri + 12, none⟩ = some (.int .i64 fl) := hr 12 _ rfl
      have f13 : wr.cell? ⟨rb, ri + 13, none⟩ = some (.slice ao hl cap) := hr 13 _ rfl
      have HUJ := Lib.hid hun; have HLJ := Lib.hid hlf; have HCJ := Lib.hid hct; have HTJ := Lib.hid htm; have SD := Lib.hid hd.out
      clear hr hun hlf hct htm hx hri hd hhl
      have rz := Lib.hid (Row.new wr #[.int .i64 0, .int .i64 0, .int .i64 0, .int .i64 0, .int .i64 0, .int .i64 0, .int .i64 0, .int .i64 0, .int .i64 0, .int .i64 0, .int .i64 0, .int .i64 0, .int .i64 0, .slice none 0 0] 73)
      go_upto_region 5 with (first | (refine wpList_store_row rfl 73 _ _ rfl wr.heap.size #[.int .i64 g1, .int .i64 g2, .int .i64 g3, .int .i64 gx, .int .i64 gy, .int .i64 gz, .int .i64 g4, .int .i64 g5, .int .i64 g6, .int .i64 sq, .int .i64 at_, .int .i64 st, .int .i64 fl, .slice ao hl cap] rfl rfl _ _ rz.out run_len12 rfl (by simp [Value.oneCell']) ?_) | fail)
      rw [World.setRow_alloc_new]
      have r1 := Row.new wr #[.int .i64 g1, .int .i64 g2, .int .i64 g3, .int .i64 gx, .int .i64 gy, .int .i64 gz, .int .i64 g4, .int .i64 g5, .int .i64 g6, .int .i64 sq, .int .i64 at_, .int .i64 st, .int .i64 fl, .slice ao hl cap] 73
      have a1 := (Below.refl wr.heap.size wr).alloc (Nat.le_refl _) (.cells #[.int .i64 g1, .int .i64 g2, .int .i64 g3, .int .i64 gx, .int .i64 gy, .int .i64 gz, .int .i64 g4, .int .i64 g5, .int .i64 g6, .int .i64 sq, .int .i64 at_, .int .i64 st, .int .i64 fl, .slice ao hl cap] 73)
      obtain ⟨X1, hX1⟩ : ∃ v, wr.alloc (.cells #[.int .i64 g1, .int .i64 g2, .int .i64 g3, .int .i64 gx, .int .i64 gy, .int .i64 gz, .int .i64 g4, .int .i64 g5, .int .i64 g6, .int .i64 sq, .int .i64 at_, .int .i64 st, .int .i64 fl, .slice ao hl cap] 73) = v := ⟨_, rfl⟩
      rw [hX1] at r1 a1 ⊢
      have S1 := Lib.hid (SD.out.under a1)
      have p0 : X1.cell? ⟨wr.heap.size, 0, none⟩ = some (.int .i64 g1) := r1.at_ 0
      have p1 : X1.cell? ⟨wr.heap.size, 1, none⟩ = some (.int .i64 g2) := r1.at_ 1
      have p2 : X1.cell? ⟨wr.heap.size, 2, none⟩ = some (.int .i64 g3) := r1.at_ 2
      have p3 : X1.cell? ⟨wr.heap.size, 3, none⟩ = some (.int .i64 gx) := r1.at_ 3
      have p4 : X1.cell? ⟨wr.heap.size, 4, none⟩ = some (.int .i64 gy) := r1.at_ 4
      have p5 : X1.cell? ⟨wr.heap.size, 5, none⟩ = some (.int .i64 gz) := r1.at_ 5
      have p6 : X1.cell? ⟨wr.heap.size, 6, none⟩ = some (.int .i64 g4) := r1.at_ 6
      have p7 : X1.cell? ⟨wr.heap.size, 7, none⟩ = some (.int .i64 g5) := r1.at_ 7
      have p8 : X1.cell? ⟨wr.heap.size, 8, none⟩ = some (.int .i64 g6) := r1.at_ 8
      clear hX1 r1 a1 rz SD f0 f1 f2 f3 f4 f5 f6 f7 f8 f9 f10 f11 f12 f13
      have rz := Lib.hid (Row.new X1 #[.int .i64 0, .int .i64 0, .int .i64 0, .int .i64 0, .int .i64 0, .int .i64 0, .int .i64 0, .int .i64 0, .int .i64 0] 71)
      go_upto_region 6 with (first | (refine wpList_store_row rfl 71 _ _ rfl X1.heap.size #[.int .i64 g1, .int .i64 g2, .int .i64 g3, .int .i64 gx, .int .i64 gy, .int .i64 gz, .int .i64 g4, .int .i64 g5, .int .i64 g6] rfl rfl _ _ rz.out gang_len12 rfl (by simp [Value.oneCell']) ?_) | fail)
      rw [World.setRow_alloc_new]
      have r2 := Row.new X1 #[.int .i64 g1, .int .i64 g2, .int .i64 g3, .int .i64 gx, .int .i64 gy, .int .i64 gz, .int .i64 g4, .int .i64 g5, .int .i64 g6] 71
      have a2 := (Below.refl X1.heap.size X1).alloc (Nat.le_refl _) (.cells #[.int .i64 g1, .int .i64 g2, .int .i64 g3, .int .i64 gx, .int .i64 gy, .int .i64 gz, .int .i64 g4, .int .i64 g5, .int .i64 g6] 71)
      obtain ⟨X2, hX2⟩ : ∃ v, X1.alloc (.cells #[.int .i64 g1, .int .i64 g2, .int .i64 g3, .int .i64 gx, .int .i64 gy, .int .i64 gz, .int .i64 g4, .int .i64 g5, .int .i64 g6] 71) = v := ⟨_, rfl⟩
      obtain ⟨q, hq⟩ : ∃ n, X1.heap.size = n := ⟨_, rfl⟩
      have S2 := S1.out.under a2
      rw [hX2] at r2 S2 ⊢
      rw [hq] at r2 ⊢
      have S2 := Lib.hid S2; have R2 := Lib.hid r2
      clear hX2 r2 a2 rz S1 hq p0 p1 p2 p3 p4 p5 p6 p7 p8
      have p1 : X2.cell? ⟨q, 1, none⟩ = some (.int .i64 g2) := R2.out.at_ 1
      go_wp2_with fail
      refine (HLJ.out _ S2.out.led).mono ?_
      rintro er w5 ⟨rfl, b5⟩
      have S5 := Lib.hid (S2.out.under b5); have R5 := Lib.hid (R2.out.under b5)
      clear b5 S2 R2 p1
      cases LF
      · have hu := HUJ.out
        rw [if_neg (by simp)] at hu
        have HUU := Lib.hid hu
        clear hu HUJ
        go_wp2_with fail
        go_roundw
        case rel => exact ⟨k + 1, rfl, by omega, by omega, by rw [show (k + 1).toNat = k.toNat + 1 by omega, HUU.out]; exact S5.out⟩
        case measure => simp [intOf]; omega
      have hu := HUJ.out
      rw [if_pos rfl] at hu
      have HUU := Lib.hid hu
      clear hu HUJ
      have c1 := fun w9 (g9 : Below w5.heap.size w5 w9) => (show w9.cell? ⟨q, 1, none⟩ = some (.int .i64 g2) from (R5.out.under g9).at_ 1)
      have c2 := fun w9 (g9 : Below w5.heap.size w5 w9) => (show w9.cell? ⟨q, 2, none⟩ = some (.int .i64 g3) from (R5.out.under g9).at_ 2)
      have c3 := fun w9 (g9 : Below w5.heap.size w5 w9) => row_range (R5.out.under g9) 3 [.int .i64 gx, .int .i64 gy, .int .i64 gz] (cl_three rfl rfl rfl)
      have C1 := Lib.hid c1; have C2 := Lib.hid c2; have C3 := Lib.hid c3
      obtain ⟨D1, D2, D3⟩ := D
      simp only at HTJ HCJ
      clear c1 c2 c3
      go_wp2_with fail
      refine region_quiet_tail 8 (fun w9 => Below w5.heap.size w5 w9) (by kernel_rfl) (by kernel_rfl) (below_drewN (Below.refl _ _) 1) ?_
      simp only [List.take_succ_cons, List.take_zero, List.drop_succ_cons, List.drop_zero]
      repeat (first
        | (go_big_quiet_skip)
        | (refine quiet_cell _ _ 3 _ _ C1.out rfl rfl ?_ Try.underlying3 rfl ?_; (focus kernel_rfl); simp only [Act.put, List.setIfInBounds_toArray, List.set_cons_zero, List.set_cons_succ])
        | (refine quiet_cell _ _ 3 _ _ C2.out rfl rfl ?_ Try.underlying3 rfl ?_; (focus kernel_rfl); simp only [Act.put, List.setIfInBounds_toArray, List.set_cons_zero, List.set_cons_succ])
        | (refine quiet_mid q 3 _ 35 _ _ C3.out rfl rfl ?_ Try.underlying35 rfl ?_ ?_; (focus kernel_rfl); (focus kernel_rfl); simp only [Act.put, List.setIfInBounds_toArray, List.set_cons_zero, List.set_cons_succ])
        | (go_big_quiet_step ((intro g2; first
          | (with_reducible rfl)
          | (with_reducible exact quiet_below g2 (HTJ.out _))))))
      refine wpQuiet_nil ?_
      intro w6 b6
      have S6 := Lib.hid (S5.out.under b6)
      clear b6 C1 C2 C3 S5 R5
      go_wp2_with fail
      refine (HCJ.out _ S6.out.led).mono ?_
      rintro er w7 ⟨rfl, l7, b7⟩
      rw [← HUU.out] at l7
      have S7 := Lib.hid (show OlSo w j B r (ns.map Lg.bare) (U (k.toNat + 1)) w7 from ⟨l7, S6.out.low.trans (b7.below HRW.out S6.out.low.size)⟩)
      clear l7 b7 S6
      go_wp2_with fail
      go_roundw
      case rel => exact ⟨k + 1, rfl, by omega, by omega, by rw [show (k + 1).toNat = k.toNat + 1 by omega]; exact S7.out⟩
      case measure => simp [intOf]; omega
    · have so := hd.out
      rw [HUE.out k (by have := HZR.out; omega)] at so
      have hal := kAll12 so.led
      have HAL := Lib.hid hal; have FIN := Lib.hid so
      clear so hd hal
      go_wp2_with fail
      refine HAL.out.mono ?_
      rintro er w3 ⟨rfl, r3, b3⟩
      have R3 := Lib.hid (And.intro r3 (below_trans FIN.out.low b3))
      clear r3 b3
      go_wp2_with fail
      go_ret
      exact ⟨_, rfl, R3.out.1, R3.out.2⟩

theorem Lg.bare_take (ns : List Nd) (L : List V3) (t : Int) (v : V3) : Lg.take (ns.map Lg.bare) L t v = Lg.take ns L t v := by
  unfold Lg.take
  rw [Lg.bare_leaf, Lg.bare_path]
theorem Lg.bare_give (ns : List Nd) (L : List V3) (t : Int) (v : V3) : Lg.give (ns.map Lg.bare) L t v = Lg.give ns L t v := by
  unfold Lg.give
  rw [Lg.bare_leaf, Lg.bare_path]

set_option maxHeartbeats 400000 in
theorem kTake0 (t : Int) (v : V3) (w : World) : Calls Try.prog 14 #[.pointer none, .int .i64 t, .agg #[.int .i64 v.x, .int .i64 v.y, .int .i64 v.z]] w (RetBelow (.int .i64 1) w) := by
  go_enter Try.func14, Try.ntmps14
  go_wp2_with fail
  go_ret
  exact ⟨rfl, (Below.refl _ _).alloc (Nat.le_refl _) _⟩

set_option maxHeartbeats 400000 in
theorem kGive0 (t : Int) (v : V3) (w : World) : Calls Try.prog 12 #[.pointer none, .int .i64 t, .agg #[.int .i64 v.x, .int .i64 v.y, .int .i64 v.z]] w (RetBelow (.int .i64 1) w) := by
  have al := (Below.refl w.heap.size w).alloc (Nat.le_refl w.heap.size) (.cells #[.int .i64 v.x, .int .i64 v.y, .int .i64 v.z] 35)
  obtain ⟨W, hW⟩ : ∃ x, w.alloc (.cells #[.int .i64 v.x, .int .i64 v.y, .int .i64 v.z] 35) = x := ⟨_, rfl⟩
  rw [hW] at al
  have AL := Lib.hid al
  clear al
  go_enter Try.func12, Try.ntmps12
  go_upto_region 1 with fail
  clear hW
  refine region_quiet (fun w2 => Below W.heap.size W w2) (by kernel_rfl) (by kernel_rfl) (below_drewN (Below.refl _ _) 1) ?_
  repeat (first
    | (go_big_quiet_skip)
    | (go_big_quiet_step ((intro g2; with_reducible rfl))))
  refine wpQuiet_nil ?_
  intro w1 b1
  have B1 := Lib.hid (below_trans AL.out b1)
  clear b1
  go_wp2_with fail
  go_ret
  exact ⟨rfl, B1.out⟩

set_option maxHeartbeats 400000 in
theorem kUsed0 (t : Int) (w : World) : Calls Try.prog 18 #[.pointer none, .int .i64 t] w (RetBelow (.agg #[.int .i64 0, .int .i64 0, .int .i64 0]) w) := by
  have al := Lib.hid ((Below.refl w.heap.size w).alloc (Nat.le_refl w.heap.size) (.cells #[.int .i64 0, .int .i64 0, .int .i64 0] 35))
  have r0 := Lib.hid (Row.new w #[.int .i64 0, .int .i64 0, .int .i64 0] 35)
  go_enter Try.func18, Try.ntmps18
  go_wp2_with (first | (refine wpList_store_row rfl 35 _ _ rfl w.heap.size #[.int .i64 0, .int .i64 0, .int .i64 0] rfl rfl _ _ r0.out vec_len rfl (one_cells 0 0 0) ?_) | fail)
  exact bodyPost_ret (results_cell_row (p := 4) (by kernel_rfl) _ _ w.heap.size _ _ _ _ rfl (r0.out.setRow _) Try.underlying35 rfl vec_len) rfl ⟨rfl, below_setRow3 al.out (Nat.le_refl _) _⟩

set_option maxHeartbeats 400000 in
theorem kAll0 (w : World) : Calls Try.prog 17 #[.pointer none] w (RetBelow (.slice none 0 0) w) := by
  go_enter Try.func17, Try.ntmps17
  go_wp2_with fail
  go_ret
  exact ⟨rfl, Below.refl _ _⟩

/-- A ledger at j that counts what the nodes of c use; none of its blocks in F. -/
def LmC (D : Nat) (w : World) (F : Nat → Prop) (j : Nat) (c : Cmd) (L : List V3) : Prop := ∃ B r, LmAt w j B r (c.nodes.map Lg.bare) L ∧ ¬ F j ∧ ¬ F B ∧ ¬ F r ∧ ∀ k, F k → k < w.heap.size
theorem Kp.of_but {F : Nat → Prop} {r : Nat} {w w' : World} (h : But r w w') (hr : ¬ F r) (hF : ∀ k, F k → k < w.heap.size) : Kp F w w' := ⟨h.os, h.tape, h.output, h.size, fun k hk => h.block k (hF k hk) (fun e => hr (e ▸ hk))⟩

def theLgC : LgC where
  At := LmC
  mono := by
    rintro D w w' F G K j c L ⟨B, r, h, hj, hB, hr, hF⟩ g hG hK
    have k : ∀ b, b < w.heap.size → ¬ F b → w'.heap[b]? = w.heap[b]? := fun b hb hn => g.block b ⟨hb, fun q => hn (hG b q.1)⟩
    have no : ∀ b, b < w.heap.size → ¬ F b → ¬ K b := fun b hb hn q => (hK b q).elim hn (fun p => by omega)
    refine ⟨B, r, ⟨(k j h.box.lt hj).trans h.box, (k B h.rows.lt hB).trans h.rows, h.mp.kept (k r h.mp.lt hr), h.len, h.few⟩, no j h.box.lt hj, no B h.rows.lt hB, no r h.mp.lt hr, fun b hb => ?_⟩
    rcases hK b hb with q | q
    · exact Nat.lt_of_lt_of_le (hF b q) g.size
    · exact q.2
  new := by
    intro c vn vh w0 w hC hw hc hb
    refine (kNew12 (hC.kept hb) (Qt.check_few hc)).mono ?_
    rintro e w' ⟨j, B, r, rfl, led, b, hj, hB, hr⟩
    exact ⟨j, rfl, ⟨B, r, led, by omega, by omega, by omega, fun k hk => Nat.lt_of_lt_of_le hk b.size⟩, b⟩
  take := by
    rintro D w F j c L ⟨B, r, h, hj, hB, hr, hF⟩ M t v _ _ ht _
    refine (kTake12 h t v ht).mono ?_
    rintro e w' ⟨rfl, led, b⟩
    rw [Lg.bare_take] at led ⊢
    exact ⟨rfl, ⟨B, r, led, hj, hB, hr, fun k hk => Nat.lt_of_lt_of_le (hF k hk) b.size⟩, Kp.of_but b hr hF⟩
  give := by
    rintro D w F j c L ⟨B, r, h, hj, hB, hr, hF⟩ M t v _ _ ht _
    refine (kGive12 h t v ht).mono ?_
    rintro e w' ⟨rfl, led, b⟩
    rw [Lg.bare_give] at led ⊢
    exact ⟨rfl, ⟨B, r, led, hj, hB, hr, fun k hk => Nat.lt_of_lt_of_le (hF k hk) b.size⟩, Kp.of_but b hr hF⟩
  used := by
    rintro D w F j c L ⟨B, r, h, hj, hB, hr, hF⟩ M t _ _ _
    refine (kUsed12 t h).mono ?_
    rintro e w' ⟨rfl, b⟩
    exact ⟨rfl, ⟨B, r, h.under b, hj, hB, hr, fun k hk => Nat.lt_of_lt_of_le (hF k hk) b.size⟩, Kp.of_below b hF⟩
  all := by
    rintro D w F j c L ⟨B, r, h, hj, hB, hr, hF⟩ M _ _
    refine (kAll12 h).mono ?_
    rintro e w' ⟨rfl, rw1, b⟩
    have h12 := h.few
    rw [← h.len] at h12
    refine ⟨_, _, w.heap.size, rfl, row_sl rw1 (by omega) _, Nat.le_refl _, ⟨B, r, h.under b, ?_, ?_, ?_, ?_⟩, Kp.of_below b hF⟩
    · exact fun q => q.elim hj (fun p => by have := h.box.lt; omega)
    · exact fun q => q.elim hB (fun p => by have := h.rows.lt; omega)
    · exact fun q => q.elim hr (fun p => by have := h.mp.lt; omega)
    · exact fun k hk => hk.elim (fun q => Nat.lt_of_lt_of_le (hF k q) b.size) (fun q => by rw [q]; exact rw1.lt)
  take0 := fun t v w _ _ => kTake0 t v w
  give0 := fun t v w _ _ => kGive0 t v w
  used0 := fun t w _ => kUsed0 t w
  all0 := fun w => (kAll0 w).mono fun e w' ⟨h, b⟩ => ⟨none, 0, h, b⟩
  of_ := by
    intro c vn vh w rs ar cr rb ro hC hw hc hR hW h200
    refine (kOf12 hC (Qt.check_few hc) hR hW).mono ?_
    rintro e w' ⟨bb, rfl, r1, b⟩
    refine ⟨_, _, bb, rfl, row_sl r1 ?_ _, b⟩
    rw [Lg.ofAll, Lg.ofL_len, List.length_replicate]
    have := Qt.check_few hc
    omega

end Go.Proofs.Ytkaikekibmgmmaa

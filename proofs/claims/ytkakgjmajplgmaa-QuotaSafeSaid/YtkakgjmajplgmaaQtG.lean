/- Quotas: the statements' walks: each tenant's own; less. -/
import Derived.Test.YtkakgjmajplgmaaQtF
import Derived.Test.YtkakgjmajplgmaaCmdE
import Derived.OrdersHeld
import Derived.Deep.RegionHeld3
namespace Go.Proofs.Ytkakgjmajplgmaa
open Go.RowKit
set_option linter.unusedVariables false

theorem two_hold11 (w : World) (cs ds : Array Value) (t u : TypeId) : Holds ((w.alloc (.cells cs t)).alloc (.cells ds u)) w.heap.size cs ∧ Holds ((w.alloc (.cells cs t)).alloc (.cells ds u)) (w.heap.size + 1) ds := by
  refine ⟨(Holds.new w _ _).kept (by simp) ((Below.refl _ _).alloc (Nat.le_refl _) _), ?_⟩
  have := Holds.new (w.alloc (.cells cs t)) ds u
  rwa [World.size_alloc] at this

theorem rLeafAt {c : Cmd} {vn vh : Value} {w : World} (n : Int) (h : CmAt c vn vh w) : Calls Try.prog 17 #[.agg (c.f vn vh), .int .i64 n] w (RetBelow (.bool (Cf.leaf c.nodes n)) w) := by
  obtain ⟨an, cn, nb, no, ah, ch, hb, ho, rfl, rfl, h1, h2⟩ := h
  exact rLeaf_any c.nodes an ah cn nb no _ ch c.half c.age n w h1
theorem nom_wide {c : Cmd} (hw : c.wide) {t : Int} (ht : 0 ≤ t ∧ t < c.nodes.length) : (Qt.nd c.nodes t).nom.wide := by
  have h := Qt.node_in ht
  exact (hw.2.1 _ (List.mem_of_getElem? h)).2.2.1

set_option maxHeartbeats 1000000 in
set_option maxRecDepth 8000 in
theorem QuotaOwn_walk (C : QuC) {c : Cmd} {vn vh : Value} {w : World} (h : CmAt c vn vh w) (hw : c.wide) {t : Int} (ht : In64 t) :
    Calls Try.prog 5 #[.agg (c.f vn vh), .int .i64 t] w (RetBelow (.bool true) w) := by
  have cA := Lib.hid (qAwake_any C)
  have cm := fun w2 (g : Below w.heap.size w w2) => qMay_any c vn vh [] none 0 w2 (h.kept g) (by simp)
  have cl := fun w2 (g : Below w.heap.size w w2) => rLeafAt t (h.kept g)
  have nv : ∀ v ∈ ([] : List V3), v.wide := fun v h => by simp at h
  have c1 := fun (e : Cf.check c = 0) (e2 : Cf.leaf c.nodes t = true) w2 (g : Below w.heap.size w w2) => C.may c vn vh [] none 0 0 0 t (Qt.nd c.nodes t).nom w2 hw e (h.kept g) (Sl.nil _ _ _ _) nv (by simp) ht (nom_wide hw (Qt.leaf_in e2))
  have c2 := fun (e : Cf.check c = 0) (e2 : Cf.leaf c.nodes t = true) w2 (g : Below w.heap.size w w2) => C.within c vn vh [] none 0 0 0 t (Qt.nd c.nodes t).nom w2 hw e (h.kept g) (Sl.nil _ _ _ _) nv (by simp) ht (nom_wide hw (Qt.leaf_in e2))
  have c3 := fun (e : Cf.check c = 0) w2 (g : Below w.heap.size w w2) => C.borrows c vn vh [] none 0 0 0 t w2 hw e (h.kept g) (Sl.nil _ _ _ _) nv (by simp) ht
  have hq := fun (e : Cf.check c = 0) (e2 : Cf.leaf c.nodes t = true) => Qt.may_own e e2
  have hlo := fun (e2 : Cf.leaf c.nodes t = true) => Qt.leaf_in e2
  obtain ⟨an, cn, nb, no, ah, ch, hb, hbo, rfl, rfl, s1, s2⟩ := h
  have hidx := s1.idx
  have hat := fun w2 (g : Below w.heap.size w w2) (e : 0 ≤ t ∧ t < c.nodes.length) => nom_range ((s1.kept g).at_ t.toNat _ (Qt.node_in e))
  obtain ⟨F, hF⟩ : ∃ f, (decide (Cf.check c = 0) && decide (([] : List V3).length ≤ 100)) = f := ⟨_, rfl⟩
  have hck : F = true → Cf.check c = 0 := fun e => by rw [← hF] at e; simpa using e
  rw [hF] at cm
  obtain ⟨L, hL⟩ : ∃ f, Cf.leaf c.nodes t = f := ⟨_, rfl⟩
  rw [hL] at cl c1 c2 hq hlo
  obtain ⟨M, hM⟩ : ∃ m, (Qt.nd c.nodes t).nom = m := ⟨_, rfl⟩
  rw [hM] at c1 c2 hq hat
  obtain ⟨m1, hm1⟩ : ∃ m, Qt.may c.nodes [] t M = m := ⟨_, rfl⟩
  obtain ⟨m2, hm2⟩ : ∃ m, Qt.within c.nodes [] t M = m := ⟨_, rfl⟩
  obtain ⟨m3, hm3⟩ : ∃ m, Qt.borrows c.nodes [] t = m := ⟨_, rfl⟩
  rw [hm1] at c1 hq
  rw [hm2] at c2 hq
  rw [hm3] at c3 hq
  simp only [List.length_nil] at cm c1 c2 c3
  clear hF hL hM hm1 hm2 hm3 nv s1 s2
  obtain ⟨kind, nodes, hosts, half, age, g, n⟩ := c
  simp only [Cmd.f] at *
  obtain ⟨nl, hnl⟩ : ∃ n, nodes.length = n := ⟨_, rfl⟩
  obtain ⟨hl, hhl⟩ : ∃ n, hosts.length = n := ⟨_, rfl⟩
  rw [hnl, hhl] at cm cl c1 c2 c3 ⊢
  rw [hnl] at hidx hlo hat
  clear hnl hhl
  obtain ⟨x, y, z⟩ := M
  simp only [V3.c] at c1 c2 hat
  have CM := Lib.hid cm; have CL := Lib.hid cl; have C1 := Lib.hid (fun (e : F = true) => c1 (hck e)); have C2 := Lib.hid (fun (e : F = true) => c2 (hck e)); have C3 := Lib.hid (fun (e : F = true) => c3 (hck e)); have HQ := Lib.hid (fun (e : F = true) => hq (hck e)); have HLO := Lib.hid hlo; have HIX := Lib.hid hidx; have HAT := Lib.hid hat
  have g0 := Lib.hid (show Below w.heap.size w (w.alloc (.cells #[.slice an nl cn, .slice ah hl ch, .int .i64 half, .int .i64 age] 25)) from (Below.refl _ _).alloc (Nat.le_refl _) _)
  have r0 := Lib.hid (Row.new w #[.slice an nl cn, .slice ah hl ch, .int .i64 half, .int .i64 age] 25)
  clear cm cl c1 c2 c3 hq hlo hidx hat hck hw ht
  go_enter Try.func5, Try.ntmps5
  go_wp2_with fail
  refine (CM.out _ g0.out).mono ?_
  rintro er w1 ⟨rfl, b1⟩
  have G1 := Lib.hid (below_trans g0.out b1); have R1 := Lib.hid (r0.out.under b1)
  clear b1
  cases F
  · go_wp2_with fail
    refine (cA.out _).mono ?_
    rintro er w2 ⟨rfl, b2⟩
    have G2 := Lib.hid (below_trans G1.out b2); clear b2
    go_wp2_with fail
    go_ret
    exact ⟨rfl, G2.out⟩
  have d0 : w1.cell? ⟨w.heap.size, 0, none⟩ = some (.slice an nl cn) := R1.out.at_ 0
  have d1 : w1.cell? ⟨w.heap.size, 1, none⟩ = some (.slice ah hl ch) := R1.out.at_ 1
  have d2 : w1.cell? ⟨w.heap.size, 2, none⟩ = some (.int .i64 half) := R1.out.at_ 2
  have d3 : w1.cell? ⟨w.heap.size, 3, none⟩ = some (.int .i64 age) := R1.out.at_ 3
  go_wp2_with fail
  refine (CL.out _ G1.out).mono ?_
  rintro er w2 ⟨rfl, b2⟩
  have G2 := Lib.hid (below_trans G1.out b2); have R2 := Lib.hid (R1.out.under b2)
  clear b2 d0 d1 d2 d3
  cases L
  · go_wp2_with fail
    refine (cA.out _).mono ?_
    rintro er w3 ⟨rfl, b3⟩
    have G3 := Lib.hid (below_trans G2.out b3); clear b3
    go_wp2_with fail
    go_ret
    exact ⟨rfl, G3.out⟩
  have hlo := HLO.out (by trivial)
  have hi := HIX.out t.toNat (by omega)
  rw [show ((t.toNat : Nat) : Int) = t by omega] at hi
  have HR := Lib.hid (HAT.out w2 G2.out hlo)
  obtain ⟨oi, hoi⟩ : ∃ n, no + t.toNat * 11 = n := ⟨_, rfl⟩
  rw [hoi] at hi HR
  obtain ⟨e1, e2, e3⟩ := HQ.out (by trivial) (by trivial)
  subst e1
  subst e2
  subst e3
  have al := (Below.refl w2.heap.size w2).alloc (Nat.le_refl _) (.cells #[.int .i64 x, .int .i64 y, .int .i64 z] 29)
  have G3 := Lib.hid (below_trans G2.out al); have R3 := Lib.hid (R2.out.under al); have O3 := Lib.hid (Row.new w2 #[.int .i64 x, .int .i64 y, .int .i64 z] 29)
  clear hoi al
  obtain ⟨hl0, hl1⟩ := hlo
  have d0 : w2.cell? ⟨w.heap.size, 0, none⟩ = some (.slice an nl cn) := R2.out.at_ 0
  have d1 : w2.cell? ⟨w.heap.size, 1, none⟩ = some (.slice ah hl ch) := R2.out.at_ 1
  have d2 : w2.cell? ⟨w.heap.size, 2, none⟩ = some (.int .i64 half) := R2.out.at_ 2
  have d3 : w2.cell? ⟨w.heap.size, 3, none⟩ = some (.int .i64 age) := R2.out.at_ 3
  go_upto_region 4 with (first | (refine wpList_load_mid rfl 29 _ rfl nb (oi + 2) rfl _ _ HR.out Try.underlying29 rfl vec_len ?_) | fail)
  obtain ⟨w3, hw3⟩ : ∃ v, w2.alloc (.cells #[.int .i64 x, .int .i64 y, .int .i64 z] 29) = v := ⟨_, rfl⟩
  rw [hw3] at G3 R3 O3 ⊢
  clear d0 d1 d2 d3 hi hw3 HR
  have d0 : w3.cell? ⟨w.heap.size, 0, none⟩ = some (.slice an nl cn) := R3.out.at_ 0
  have d1 : w3.cell? ⟨w.heap.size, 1, none⟩ = some (.slice ah hl ch) := R3.out.at_ 1
  have d2 : w3.cell? ⟨w.heap.size, 2, none⟩ = some (.int .i64 half) := R3.out.at_ 2
  have d3 : w3.cell? ⟨w.heap.size, 3, none⟩ = some (.int .i64 age) := R3.out.at_ 3
  have p0 : w3.cell? ⟨w2.heap.size, 0, none⟩ = some (.int .i64 x) := O3.out.at_ 0
  have p1 : w3.cell? ⟨w2.heap.size, 1, none⟩ = some (.int .i64 y) := O3.out.at_ 1
  have p2 : w3.cell? ⟨w2.heap.size, 2, none⟩ = some (.int .i64 z) := O3.out.at_ 2
  go_wp2_with fail
  refine (C1.out (by trivial) (by trivial) _ G3.out).mono ?_
  rintro er w4 ⟨rfl, b4⟩
  have G4 := Lib.hid (below_trans G3.out b4); have R4 := Lib.hid (R3.out.under b4); have O4 := Lib.hid (O3.out.under b4)
  clear b4 d0 d1 d2 d3 p0 p1 p2
  have d0 : w4.cell? ⟨w.heap.size, 0, none⟩ = some (.slice an nl cn) := R4.out.at_ 0
  have d1 : w4.cell? ⟨w.heap.size, 1, none⟩ = some (.slice ah hl ch) := R4.out.at_ 1
  have d2 : w4.cell? ⟨w.heap.size, 2, none⟩ = some (.int .i64 half) := R4.out.at_ 2
  have d3 : w4.cell? ⟨w.heap.size, 3, none⟩ = some (.int .i64 age) := R4.out.at_ 3
  have p0 : w4.cell? ⟨w2.heap.size, 0, none⟩ = some (.int .i64 x) := O4.out.at_ 0
  have p1 : w4.cell? ⟨w2.heap.size, 1, none⟩ = some (.int .i64 y) := O4.out.at_ 1
  have p2 : w4.cell? ⟨w2.heap.size, 2, none⟩ = some (.int .i64 z) := O4.out.at_ 2
  go_wp2_with fail
  refine (C2.out (by trivial) (by trivial) _ G4.out).mono ?_
  rintro er w5 ⟨rfl, b5⟩
  have G5 := Lib.hid (below_trans G4.out b5); have R5 := Lib.hid (R4.out.under b5)
  clear b5 d0 d1 d2 d3 p0 p1 p2
  have d0 : w5.cell? ⟨w.heap.size, 0, none⟩ = some (.slice an nl cn) := R5.out.at_ 0
  have d1 : w5.cell? ⟨w.heap.size, 1, none⟩ = some (.slice ah hl ch) := R5.out.at_ 1
  have d2 : w5.cell? ⟨w.heap.size, 2, none⟩ = some (.int .i64 half) := R5.out.at_ 2
  have d3 : w5.cell? ⟨w.heap.size, 3, none⟩ = some (.int .i64 age) := R5.out.at_ 3
  go_wp2_with fail
  refine (C3.out (by trivial) _ G5.out).mono ?_
  rintro er w6 ⟨rfl, b6⟩
  have G6 := Lib.hid (below_trans G5.out b6)
  clear b6 d0 d1 d2 d3
  go_wp2_with fail
  refine (cA.out _).mono ?_
  rintro er w7 ⟨rfl, b7⟩
  have G7 := Lib.hid (below_trans G6.out b7); clear b7
  go_wp2_with fail
  go_ret
  exact ⟨rfl, G7.out⟩

end Go.Proofs.Ytkakgjmajplgmaa

/- Quotas: the statement's walk: less. -/
import Derived.Test.YtkakgjmajplgmaaQtG
namespace Go.Proofs.Ytkakgjmajplgmaa
open Go.RowKit
set_option linter.unusedVariables false

theorem less_k (n : Int) : (IntKind.u64.wrap n).tmod 3 = 0 ∨ (IntKind.u64.wrap n).tmod 3 = 1 ∨ (IntKind.u64.wrap n).tmod 3 = 2 := by
  have h : 0 ≤ IntKind.u64.wrap n := by
    unfold IntKind.wrap
    simp [IntKind.signed, IntKind.bits]
    omega
  rw [Int.tmod_eq_emod_of_nonneg h]
  omega

theorem less_half {n : Int} (i : In64 n) (h : 0 ≤ n) : ∃ m, wrap64 (n.tdiv 2) = m ∧ 0 ≤ m ∧ m ≤ n ∧ In64 m := by
  have e : n.tdiv 2 = n / 2 := Int.tdiv_eq_ediv_of_nonneg h
  unfold In64 at i ⊢
  refine ⟨n / 2, ?_, by omega, by omega, by omega⟩
  rw [e]
  unfold wrap64
  omega

set_option maxHeartbeats 1000000 in
set_option maxRecDepth 8000 in
theorem QuotaLess_walk (C : QuC) {c : Cmd} {vn vh : Value} {used : List V3} {ao : Option Addr} {cap bb oo : Nat} {w : World} (h : CmAt c vn vh w) (hw : c.wide) (hU : Sl V3.c 26 3 w ao cap bb oo used) (hu : ∀ v ∈ used, v.wide) {n0 n1 n2 n3 n4 : Int} (i0 : In64 n0) (i1 : In64 n1) (i2 : In64 n2) (i3 : In64 n3) (i4 : In64 n4) :
    Calls Try.prog 4 #[.agg (c.f vn vh), .slice ao used.length cap, .agg #[.int .i64 n0, .int .i64 n1, .int .i64 n2, .int .i64 n3, .int .i64 n4]] w (RetBelow (.bool true) w) := by
  have cA := Lib.hid (qAwake_any C)
  have cm := fun w2 (g : Below w.heap.size w w2) => qMay_any c vn vh used ao cap w2 (h.kept g) hU.small
  have cv := fun w2 => rValid3 ⟨n1, n2, n3⟩ w2
  have nw : V3.wide ⟨n1, n2, n3⟩ := ⟨i1, i2, i3⟩
  have c1 := fun (e : Cf.check c = 0) (e2 : used.length ≤ 100) (v : V3) (hv : v.wide) w2 (g : Below w.heap.size w w2) => C.may c vn vh used ao cap bb oo n0 v w2 hw e (h.kept g) (hU.kept g) hu e2 i0 hv
  have c2 := fun (e : Cf.check c = 0) (e2 : used.length ≤ 100) (v : V3) (hv : v.wide) w2 (g : Below w.heap.size w w2) => C.within c vn vh used ao cap bb oo n0 v w2 hw e (h.kept g) (hU.kept g) hu e2 i0 hv
  have hl := fun (v : V3) (hv : Qt.le v ⟨n1, n2, n3⟩) => And.intro (fun e => Qt.may_less (ns := c.nodes) (used := used) (t := n0) e hv) (fun e => Qt.within_less (ns := c.nodes) (used := used) (t := n0) e hv)
  obtain ⟨F, hF⟩ : ∃ f, (decide (Cf.check c = 0) && decide (used.length ≤ 100)) = f := ⟨_, rfl⟩
  have hck : F = true → Cf.check c = 0 ∧ used.length ≤ 100 := fun e => by rw [← hF] at e; simpa using e
  rw [hF] at cm
  obtain ⟨VV, hVV⟩ : ∃ f, Cf.valid ⟨n1, n2, n3⟩ = f := ⟨_, rfl⟩
  have hvv : VV = true → 0 ≤ n1 ∧ 0 ≤ n2 ∧ 0 ≤ n3 := fun e => by
    rw [← hVV, Qt.valid_iff] at e
    exact ⟨e.1.1, e.2.1.1, e.2.2.1⟩
  rw [hVV] at cv
  obtain ⟨M, hM⟩ : ∃ f, Qt.may c.nodes used n0 = f := ⟨_, rfl⟩
  obtain ⟨I, hI⟩ : ∃ f, Qt.within c.nodes used n0 = f := ⟨_, rfl⟩
  simp only [hM] at c1 hl
  simp only [hI] at c2 hl
  obtain ⟨an, ln, cn, ah, lh, ch, rfl, rfl⟩ := h.slices
  obtain ⟨ul, hul⟩ : ∃ n, used.length = n := ⟨_, rfl⟩
  rw [hul] at cm c1 c2 hck ⊢
  clear hF hVV hM hI h hw hU hu hul
  obtain ⟨kind, nodes, hosts, half, age, g, n⟩ := c
  simp only [Cmd.f, V3.c] at *
  have CM := Lib.hid cm; have CV := Lib.hid cv; have C1 := Lib.hid (fun (e : F = true) => c1 (hck e).1 (hck e).2); have C2 := Lib.hid (fun (e : F = true) => c2 (hck e).1 (hck e).2); have HL := Lib.hid hl; have HVV := Lib.hid hvv; have NW := Lib.hid nw
  have II := Lib.hid (And.intro i1 (And.intro i2 i3))
  have hh := two_hold11 w #[.slice an ln cn, .slice ah lh ch, .int .i64 half, .int .i64 age] #[.int .i64 n0, .int .i64 n1, .int .i64 n2, .int .i64 n3, .int .i64 n4] 25 44
  have g0 := Lib.hid (two_below w (.cells #[.slice an ln cn, .slice ah lh ch, .int .i64 half, .int .i64 age] 25) (.cells #[.int .i64 n0, .int .i64 n1, .int .i64 n2, .int .i64 n3, .int .i64 n4] 44))
  obtain ⟨ha, hb⟩ := hh
  have HA := Lib.hid ha; have HB := Lib.hid hb
  have q0 : ((w.alloc (.cells #[.slice an ln cn, .slice ah lh ch, .int .i64 half, .int .i64 age] 25)).alloc (.cells #[.int .i64 n0, .int .i64 n1, .int .i64 n2, .int .i64 n3, .int .i64 n4] 44)).cell? ⟨w.heap.size + 1, 0, none⟩ = some (.int .i64 n0) := hb 0 _ rfl
  have q1 : ((w.alloc (.cells #[.slice an ln cn, .slice ah lh ch, .int .i64 half, .int .i64 age] 25)).alloc (.cells #[.int .i64 n0, .int .i64 n1, .int .i64 n2, .int .i64 n3, .int .i64 n4] 44)).cell? ⟨w.heap.size + 1, 1, none⟩ = some (.int .i64 n1) := hb 1 _ rfl
  have q2 : ((w.alloc (.cells #[.slice an ln cn, .slice ah lh ch, .int .i64 half, .int .i64 age] 25)).alloc (.cells #[.int .i64 n0, .int .i64 n1, .int .i64 n2, .int .i64 n3, .int .i64 n4] 44)).cell? ⟨w.heap.size + 1, 2, none⟩ = some (.int .i64 n2) := hb 2 _ rfl
  have q3 : ((w.alloc (.cells #[.slice an ln cn, .slice ah lh ch, .int .i64 half, .int .i64 age] 25)).alloc (.cells #[.int .i64 n0, .int .i64 n1, .int .i64 n2, .int .i64 n3, .int .i64 n4] 44)).cell? ⟨w.heap.size + 1, 3, none⟩ = some (.int .i64 n3) := hb 3 _ rfl
  clear cm cv c1 c2 hl hck hvv nw ha hb i0 i1 i2 i3
  go_enter Try.func4, Try.ntmps4
  go_wp2_with fail
  obtain ⟨W, hW⟩ : ∃ v, (w.alloc (.cells #[.slice an ln cn, .slice ah lh ch, .int .i64 half, .int .i64 age] 25)).alloc (.cells #[.int .i64 n0, .int .i64 n1, .int .i64 n2, .int .i64 n3, .int .i64 n4] 44) = v := ⟨_, rfl⟩
  rw [hW] at g0 HA HB q0 q1 q2 q3 ⊢
  go_region_held3 (fun w' => w'.cell? ⟨w.heap.size + 1, 0, none⟩ = some (.int .i64 n0) ∧ w'.cell? ⟨w.heap.size + 1, 1, none⟩ = some (.int .i64 n1) ∧ w'.cell? ⟨w.heap.size + 1, 2, none⟩ = some (.int .i64 n2) ∧ w'.cell? ⟨w.heap.size + 1, 3, none⟩ = some (.int .i64 n3)) (first | assumption | exact ⟨q0, q1, q2, q3⟩ | go_keep) (fail)
  have zW : W.heap.size = w.heap.size + 1 + 1 := by rw [← hW, World.size_alloc, World.size_alloc]
  have al : Below W.heap.size W ((W.alloc (.cells #[.int .i64 n1, .int .i64 n2, .int .i64 n3] 29)).drew) := below_drewN ((Below.refl _ _).alloc (Nat.le_refl _) _) 1
  have G1 := Lib.hid (below_trans g0.out al); have HC1 := Lib.hid (HA.out.kept (by omega) al); have HN1 := Lib.hid (HB.out.kept (by omega) al)
  have NR1 := Lib.hid (show Row ((W.alloc (.cells #[.int .i64 n1, .int .i64 n2, .int .i64 n3] 29)).drew) W.heap.size #[.int .i64 n1, .int .i64 n2, .int .i64 n3] 29 from Row.new W _ _)
  have Z1 : Hid (w.heap.size < ((W.alloc (.cells #[.int .i64 n1, .int .i64 n2, .int .i64 n3] 29)).drew).heap.size ∧ w.heap.size + 1 < ((W.alloc (.cells #[.int .i64 n1, .int .i64 n2, .int .i64 n3] 29)).drew).heap.size) := Lib.hid ⟨Nat.lt_of_lt_of_le (by omega) al.size, Nat.lt_of_lt_of_le (by omega) al.size⟩
  obtain ⟨w1, hw1⟩ : ∃ v, (W.alloc (.cells #[.int .i64 n1, .int .i64 n2, .int .i64 n3] 29)).drew = v := ⟨_, rfl⟩
  rw [hw1] at G1 HC1 HN1 NR1 Z1 ⊢; rw [zW] at NR1
  clear al hw1 q0 q1 q2 q3 hW
  have d0 : w1.cell? ⟨w.heap.size, 0, none⟩ = some (.slice an ln cn) := HC1.out 0 _ rfl
  have d1 : w1.cell? ⟨w.heap.size, 1, none⟩ = some (.slice ah lh ch) := HC1.out 1 _ rfl
  have d2 : w1.cell? ⟨w.heap.size, 2, none⟩ = some (.int .i64 half) := HC1.out 2 _ rfl
  have d3 : w1.cell? ⟨w.heap.size, 3, none⟩ = some (.int .i64 age) := HC1.out 3 _ rfl
  go_wp2_with fail
  refine (CM.out _ G1.out).mono ?_
  rintro er w2 ⟨rfl, b2⟩
  have G2 := Lib.hid (below_trans G1.out b2); have HC2 := Lib.hid (HC1.out.kept Z1.out.1 b2); have HN2 := Lib.hid (HN1.out.kept Z1.out.2 b2); have NR2 := Lib.hid (NR1.out.under b2)
  have Z2 : Hid (w.heap.size < w2.heap.size ∧ w.heap.size + 1 < w2.heap.size) := Lib.hid ⟨Nat.lt_of_lt_of_le Z1.out.1 b2.size, Nat.lt_of_lt_of_le Z1.out.2 b2.size⟩
  clear b2 d0 d1 d2 d3
  cases F
  · go_wp2_with fail
    refine (cA.out _).mono ?_
    rintro er wz ⟨rfl, bz⟩
    have GZ := Lib.hid (below_trans G2.out bz); clear bz
    go_wp2_with fail
    go_ret
    exact ⟨rfl, GZ.out⟩
  have p0 : w2.cell? ⟨w.heap.size + 1 + 1, 0, none⟩ = some (.int .i64 n1) := NR2.out.at_ 0
  have p1 : w2.cell? ⟨w.heap.size + 1 + 1, 1, none⟩ = some (.int .i64 n2) := NR2.out.at_ 1
  have p2 : w2.cell? ⟨w.heap.size + 1 + 1, 2, none⟩ = some (.int .i64 n3) := NR2.out.at_ 2
  go_wp2_with fail
  refine (CV.out _).mono ?_
  rintro er w3 ⟨rfl, b2⟩
  have G3 := Lib.hid (below_trans G2.out b2); have HC3 := Lib.hid (HC2.out.kept Z2.out.1 b2); have HN3 := Lib.hid (HN2.out.kept Z2.out.2 b2); have NR3 := Lib.hid (NR2.out.under b2)
  have Z3 : Hid (w.heap.size < w3.heap.size ∧ w.heap.size + 1 < w3.heap.size) := Lib.hid ⟨Nat.lt_of_lt_of_le Z2.out.1 b2.size, Nat.lt_of_lt_of_le Z2.out.2 b2.size⟩
  clear b2 p0 p1 p2
  cases VV
  · go_wp2_with fail
    refine (cA.out _).mono ?_
    rintro er wz ⟨rfl, bz⟩
    have GZ := Lib.hid (below_trans G3.out bz); clear bz
    go_wp2_with fail
    go_ret
    exact ⟨rfl, GZ.out⟩
  have d0 : w3.cell? ⟨w.heap.size, 0, none⟩ = some (.slice an ln cn) := HC3.out 0 _ rfl
  have d1 : w3.cell? ⟨w.heap.size, 1, none⟩ = some (.slice ah lh ch) := HC3.out 1 _ rfl
  have d2 : w3.cell? ⟨w.heap.size, 2, none⟩ = some (.int .i64 half) := HC3.out 2 _ rfl
  have d3 : w3.cell? ⟨w.heap.size, 3, none⟩ = some (.int .i64 age) := HC3.out 3 _ rfl
  have p0 : w3.cell? ⟨w.heap.size + 1 + 1, 0, none⟩ = some (.int .i64 n1) := NR3.out.at_ 0
  have p1 : w3.cell? ⟨w.heap.size + 1 + 1, 1, none⟩ = some (.int .i64 n2) := NR3.out.at_ 1
  have p2 : w3.cell? ⟨w.heap.size + 1 + 1, 2, none⟩ = some (.int .i64 n3) := NR3.out.at_ 2
  go_wp2_with fail
  refine (C1.out (by trivial) ⟨n1, n2, n3⟩ NW.out _ G3.out).mono ?_
  rintro er w4 ⟨rfl, b2⟩
  have G4 := Lib.hid (below_trans G3.out b2); have HC4 := Lib.hid (HC3.out.kept Z3.out.1 b2); have HN4 := Lib.hid (HN3.out.kept Z3.out.2 b2); have NR4 := Lib.hid (NR3.out.under b2)
  have Z4 : Hid (w.heap.size < w4.heap.size ∧ w.heap.size + 1 < w4.heap.size) := Lib.hid ⟨Nat.lt_of_lt_of_le Z3.out.1 b2.size, Nat.lt_of_lt_of_le Z3.out.2 b2.size⟩
  clear b2 d0 d1 d2 d3 p0 p1 p2
  have hl := HL.out
  obtain ⟨m, hm⟩ : ∃ m, M ⟨n1, n2, n3⟩ = m := ⟨_, rfl⟩
  rw [hm] at hl ⊢
  have HLM := Lib.hid hl
  clear hl HL
  cases m
  · go_wp2_with fail
    refine (cA.out _).mono ?_
    rintro er wz ⟨rfl, bz⟩
    have GZ := Lib.hid (below_trans G4.out bz); clear bz
    go_wp2_with fail
    go_ret
    exact ⟨rfl, GZ.out⟩
  have p0 : w4.cell? ⟨w.heap.size + 1 + 1, 0, none⟩ = some (.int .i64 n1) := NR4.out.at_ 0
  have p1 : w4.cell? ⟨w.heap.size + 1 + 1, 1, none⟩ = some (.int .i64 n2) := NR4.out.at_ 1
  have p2 : w4.cell? ⟨w.heap.size + 1 + 1, 2, none⟩ = some (.int .i64 n3) := NR4.out.at_ 2
  have al5 : Below w4.heap.size w4 (w4.alloc (.cells #[.int .i64 n1, .int .i64 n2, .int .i64 n3] 29)) := (Below.refl _ _).alloc (Nat.le_refl _) _
  have G5 := Lib.hid (below_trans G4.out al5); have HC5 := Lib.hid (HC4.out.kept Z4.out.1 al5); have HN5 := Lib.hid (HN4.out.kept Z4.out.2 al5)
  have LR5 := Lib.hid (show Row (w4.alloc (.cells #[.int .i64 n1, .int .i64 n2, .int .i64 n3] 29)) w4.heap.size #[.int .i64 n1, .int .i64 n2, .int .i64 n3] 29 from Row.new w4 _ _)
  have Z5 : Hid (w.heap.size < w4.heap.size ∧ w.heap.size + 1 < w4.heap.size) := Z4
  have r4 : (w4.alloc (.cells #[.int .i64 n1, .int .i64 n2, .int .i64 n3] 29)).cell? ⟨w.heap.size + 1, 4, none⟩ = some (.int .i64 n4) := HN5.out 4 _ rfl
  clear al5
  go_upto_region 6 with fail
  have hk3 := less_k n4
  obtain ⟨kk, hk⟩ : ∃ v, (IntKind.u64.wrap n4).tmod 3 = v := ⟨_, rfl⟩
  rw [hk] at hk3 ⊢
  clear hk
  rcases hk3 with rfl | rfl | rfl
  · rw [show wrap64 0 = 0 from by (first | rfl | (unfold wrap64; omega) | simp [wrap64])]
    have l0 : (w4.alloc (.cells #[.int .i64 n1, .int .i64 n2, .int .i64 n3] 29)).cell? ⟨w4.heap.size, 0, none⟩ = some (.int .i64 n1) := LR5.out.at_ 0
    have fz : (w4.alloc (.cells #[.int .i64 n1, .int .i64 n2, .int .i64 n3] 29)).frozen? ⟨w4.heap.size, 0, none⟩ = false := World.frozen?_alloc_at (w := w4) _ _ _ 0 rfl
    go_upto_region 7 with fail
    obtain ⟨m, hm, m0, m1, mi⟩ := less_half (And.left II.out) (And.left (HVV.out trivial))
    rw [hm]
    have al6 : Below w4.heap.size w4 (w4.alloc (.cells #[.int .i64 m, .int .i64 n2, .int .i64 n3] 29)) := (Below.refl _ _).alloc (Nat.le_refl _) _
    have G6 := Lib.hid (below_trans G4.out al6); have HC6 := Lib.hid (HC4.out.kept Z4.out.1 al6); have NR6 := Lib.hid (NR4.out.under al6)
    have LR6 := Lib.hid (show Row (w4.alloc (.cells #[.int .i64 m, .int .i64 n2, .int .i64 n3] 29)) w4.heap.size #[.int .i64 m, .int .i64 n2, .int .i64 n3] 29 from Row.new w4 _ _)
    have Z6 : Hid (w.heap.size < (w4.alloc (.cells #[.int .i64 m, .int .i64 n2, .int .i64 n3] 29)).heap.size) := Lib.hid (Nat.lt_of_lt_of_le Z4.out.1 al6.size)
    obtain ⟨w6, hw6⟩ : ∃ v, w4.alloc (.cells #[.int .i64 m, .int .i64 n2, .int .i64 n3] 29) = v := ⟨_, rfl⟩
    rw [hw6] at G6 HC6 NR6 LR6 Z6 ⊢
    have MW : Hid (V3.wide ⟨m, n2, n3⟩) := Lib.hid ⟨mi, II.out.2.1, II.out.2.2⟩
    have HL6 := Lib.hid (HLM.out ⟨m, n2, n3⟩ ⟨m1, Int.le_refl _, Int.le_refl _⟩)
    clear al6 hw6 hm l0 fz r4 G5 HC5 HN5 LR5 Z5 p0 p1 p2
    have d0 : w6.cell? ⟨w.heap.size, 0, none⟩ = some (.slice an ln cn) := HC6.out 0 _ rfl
    have d1 : w6.cell? ⟨w.heap.size, 1, none⟩ = some (.slice ah lh ch) := HC6.out 1 _ rfl
    have d2 : w6.cell? ⟨w.heap.size, 2, none⟩ = some (.int .i64 half) := HC6.out 2 _ rfl
    have d3 : w6.cell? ⟨w.heap.size, 3, none⟩ = some (.int .i64 age) := HC6.out 3 _ rfl
    have p0 : w6.cell? ⟨w.heap.size + 1 + 1, 0, none⟩ = some (.int .i64 n1) := NR6.out.at_ 0
    have p1 : w6.cell? ⟨w.heap.size + 1 + 1, 1, none⟩ = some (.int .i64 n2) := NR6.out.at_ 1
    have p2 : w6.cell? ⟨w.heap.size + 1 + 1, 2, none⟩ = some (.int .i64 n3) := NR6.out.at_ 2
    have l0 : w6.cell? ⟨w4.heap.size, 0, none⟩ = some (.int .i64 m) := LR6.out.at_ 0
    have l1 : w6.cell? ⟨w4.heap.size, 1, none⟩ = some (.int .i64 n2) := LR6.out.at_ 1
    have l2 : w6.cell? ⟨w4.heap.size, 2, none⟩ = some (.int .i64 n3) := LR6.out.at_ 2
    go_wp2_with fail
    refine (C1.out (by trivial) ⟨m, n2, n3⟩ MW.out _ G6.out).mono ?_
    rintro er w7 ⟨rfl, b2⟩
    have G7 := Lib.hid (below_trans G6.out b2); have HC7 := Lib.hid (HC6.out.kept Z6.out b2); have LR7 := Lib.hid (LR6.out.under b2); have NR7 := Lib.hid (NR6.out.under b2)
    have Z7 : Hid (w.heap.size < w7.heap.size) := Lib.hid (Nat.lt_of_lt_of_le Z6.out b2.size)
    clear b2 d0 d1 d2 d3 p0 p1 p2 l0 l1 l2
    have d0 : w7.cell? ⟨w.heap.size, 0, none⟩ = some (.slice an ln cn) := HC7.out 0 _ rfl
    have d1 : w7.cell? ⟨w.heap.size, 1, none⟩ = some (.slice ah lh ch) := HC7.out 1 _ rfl
    have d2 : w7.cell? ⟨w.heap.size, 2, none⟩ = some (.int .i64 half) := HC7.out 2 _ rfl
    have d3 : w7.cell? ⟨w.heap.size, 3, none⟩ = some (.int .i64 age) := HC7.out 3 _ rfl
    have p0 : w7.cell? ⟨w.heap.size + 1 + 1, 0, none⟩ = some (.int .i64 n1) := NR7.out.at_ 0
    have p1 : w7.cell? ⟨w.heap.size + 1 + 1, 1, none⟩ = some (.int .i64 n2) := NR7.out.at_ 1
    have p2 : w7.cell? ⟨w.heap.size + 1 + 1, 2, none⟩ = some (.int .i64 n3) := NR7.out.at_ 2
    have l0 : w7.cell? ⟨w4.heap.size, 0, none⟩ = some (.int .i64 m) := LR7.out.at_ 0
    have l1 : w7.cell? ⟨w4.heap.size, 1, none⟩ = some (.int .i64 n2) := LR7.out.at_ 1
    have l2 : w7.cell? ⟨w4.heap.size, 2, none⟩ = some (.int .i64 n3) := LR7.out.at_ 2
    rw [HL6.out.1 trivial]
    go_wp2_with fail
    refine (C2.out (by trivial) ⟨n1, n2, n3⟩ NW.out _ G7.out).mono ?_
    rintro er w8 ⟨rfl, b2⟩
    have G8 := Lib.hid (below_trans G7.out b2); have HC8 := Lib.hid (HC7.out.kept Z7.out b2); have LR8 := Lib.hid (LR7.out.under b2); have NR8 := Lib.hid (NR7.out.under b2)
    have Z8 : Hid (w.heap.size < w8.heap.size) := Lib.hid (Nat.lt_of_lt_of_le Z7.out b2.size)
    clear b2 d0 d1 d2 d3 p0 p1 p2 l0 l1 l2
    have d0 : w8.cell? ⟨w.heap.size, 0, none⟩ = some (.slice an ln cn) := HC8.out 0 _ rfl
    have d1 : w8.cell? ⟨w.heap.size, 1, none⟩ = some (.slice ah lh ch) := HC8.out 1 _ rfl
    have d2 : w8.cell? ⟨w.heap.size, 2, none⟩ = some (.int .i64 half) := HC8.out 2 _ rfl
    have d3 : w8.cell? ⟨w.heap.size, 3, none⟩ = some (.int .i64 age) := HC8.out 3 _ rfl
    have p0 : w8.cell? ⟨w.heap.size + 1 + 1, 0, none⟩ = some (.int .i64 n1) := NR8.out.at_ 0
    have p1 : w8.cell? ⟨w.heap.size + 1 + 1, 1, none⟩ = some (.int .i64 n2) := NR8.out.at_ 1
    have p2 : w8.cell? ⟨w.heap.size + 1 + 1, 2, none⟩ = some (.int .i64 n3) := NR8.out.at_ 2
    have l0 : w8.cell? ⟨w4.heap.size, 0, none⟩ = some (.int .i64 m) := LR8.out.at_ 0
    have l1 : w8.cell? ⟨w4.heap.size, 1, none⟩ = some (.int .i64 n2) := LR8.out.at_ 1
    have l2 : w8.cell? ⟨w4.heap.size, 2, none⟩ = some (.int .i64 n3) := LR8.out.at_ 2
    have hi := HL6.out.2
    obtain ⟨i, hI⟩ : ∃ i, I ⟨n1, n2, n3⟩ = i := ⟨_, rfl⟩
    rw [hI] at hi ⊢
    have HI := Lib.hid hi
    clear hi hI
    cases i
    · go_wp2_with fail
      refine (cA.out _).mono ?_
      rintro er wz ⟨rfl, bz⟩
      have GZ := Lib.hid (below_trans G8.out bz); clear bz
      go_wp2_with fail
      go_ret
      exact ⟨rfl, GZ.out⟩
    go_wp2_with fail
    refine (C2.out (by trivial) ⟨m, n2, n3⟩ MW.out _ G8.out).mono ?_
    rintro er w9 ⟨rfl, b2⟩
    have G9 := Lib.hid (below_trans G8.out b2); have HC9 := Lib.hid (HC8.out.kept Z8.out b2); have LR9 := Lib.hid (LR8.out.under b2); have NR9 := Lib.hid (NR8.out.under b2)
    have Z9 : Hid (w.heap.size < w9.heap.size) := Lib.hid (Nat.lt_of_lt_of_le Z8.out b2.size)
    clear b2 d0 d1 d2 d3 p0 p1 p2 l0 l1 l2
    rw [HI.out trivial]
    go_wp2_with fail
    refine (cA.out _).mono ?_
    rintro er wz ⟨rfl, bz⟩
    have GZ := Lib.hid (below_trans G9.out bz); clear bz
    go_wp2_with fail
    go_ret
    exact ⟨rfl, GZ.out⟩
  · rw [show wrap64 1 = 1 from by (first | rfl | (unfold wrap64; omega) | simp [wrap64])]
    have l0 : (w4.alloc (.cells #[.int .i64 n1, .int .i64 n2, .int .i64 n3] 29)).cell? ⟨w4.heap.size, 1, none⟩ = some (.int .i64 n2) := LR5.out.at_ 1
    have fz : (w4.alloc (.cells #[.int .i64 n1, .int .i64 n2, .int .i64 n3] 29)).frozen? ⟨w4.heap.size, 1, none⟩ = false := World.frozen?_alloc_at (w := w4) _ _ _ 1 rfl
    go_upto_region 7 with fail
    obtain ⟨m, hm, m0, m1, mi⟩ := less_half ((fun h => h.2.1) II.out) ((fun h => h.2.1) (HVV.out trivial))
    rw [hm]
    have al6 : Below w4.heap.size w4 (w4.alloc (.cells #[.int .i64 n1, .int .i64 m, .int .i64 n3] 29)) := (Below.refl _ _).alloc (Nat.le_refl _) _
    have G6 := Lib.hid (below_trans G4.out al6); have HC6 := Lib.hid (HC4.out.kept Z4.out.1 al6); have NR6 := Lib.hid (NR4.out.under al6)
    have LR6 := Lib.hid (show Row (w4.alloc (.cells #[.int .i64 n1, .int .i64 m, .int .i64 n3] 29)) w4.heap.size #[.int .i64 n1, .int .i64 m, .int .i64 n3] 29 from Row.new w4 _ _)
    have Z6 : Hid (w.heap.size < (w4.alloc (.cells #[.int .i64 n1, .int .i64 m, .int .i64 n3] 29)).heap.size) := Lib.hid (Nat.lt_of_lt_of_le Z4.out.1 al6.size)
    obtain ⟨w6, hw6⟩ : ∃ v, w4.alloc (.cells #[.int .i64 n1, .int .i64 m, .int .i64 n3] 29) = v := ⟨_, rfl⟩
    rw [hw6] at G6 HC6 NR6 LR6 Z6 ⊢
    have MW : Hid (V3.wide ⟨n1, m, n3⟩) := Lib.hid ⟨II.out.1, mi, II.out.2.2⟩
    have HL6 := Lib.hid (HLM.out ⟨n1, m, n3⟩ ⟨Int.le_refl _, m1, Int.le_refl _⟩)
    clear al6 hw6 hm l0 fz r4 G5 HC5 HN5 LR5 Z5 p0 p1 p2
    have d0 : w6.cell? ⟨w.heap.size, 0, none⟩ = some (.slice an ln cn) := HC6.out 0 _ rfl
    have d1 : w6.cell? ⟨w.heap.size, 1, none⟩ = some (.slice ah lh ch) := HC6.out 1 _ rfl
    have d2 : w6.cell? ⟨w.heap.size, 2, none⟩ = some (.int .i64 half) := HC6.out 2 _ rfl
    have d3 : w6.cell? ⟨w.heap.size, 3, none⟩ = some (.int .i64 age) := HC6.out 3 _ rfl
    have p0 : w6.cell? ⟨w.heap.size + 1 + 1, 0, none⟩ = some (.int .i64 n1) := NR6.out.at_ 0
    have p1 : w6.cell? ⟨w.heap.size + 1 + 1, 1, none⟩ = some (.int .i64 n2) := NR6.out.at_ 1
    have p2 : w6.cell? ⟨w.heap.size + 1 + 1, 2, none⟩ = some (.int .i64 n3) := NR6.out.at_ 2
    have l0 : w6.cell? ⟨w4.heap.size, 0, none⟩ = some (.int .i64 n1) := LR6.out.at_ 0
    have l1 : w6.cell? ⟨w4.heap.size, 1, none⟩ = some (.int .i64 m) := LR6.out.at_ 1
    have l2 : w6.cell? ⟨w4.heap.size, 2, none⟩ = some (.int .i64 n3) := LR6.out.at_ 2
    go_wp2_with fail
    refine (C1.out (by trivial) ⟨n1, m, n3⟩ MW.out _ G6.out).mono ?_
    rintro er w7 ⟨rfl, b2⟩
    have G7 := Lib.hid (below_trans G6.out b2); have HC7 := Lib.hid (HC6.out.kept Z6.out b2); have LR7 := Lib.hid (LR6.out.under b2); have NR7 := Lib.hid (NR6.out.under b2)
    have Z7 : Hid (w.heap.size < w7.heap.size) := Lib.hid (Nat.lt_of_lt_of_le Z6.out b2.size)
    clear b2 d0 d1 d2 d3 p0 p1 p2 l0 l1 l2
    have d0 : w7.cell? ⟨w.heap.size, 0, none⟩ = some (.slice an ln cn) := HC7.out 0 _ rfl
    have d1 : w7.cell? ⟨w.heap.size, 1, none⟩ = some (.slice ah lh ch) := HC7.out 1 _ rfl
    have d2 : w7.cell? ⟨w.heap.size, 2, none⟩ = some (.int .i64 half) := HC7.out 2 _ rfl
    have d3 : w7.cell? ⟨w.heap.size, 3, none⟩ = some (.int .i64 age) := HC7.out 3 _ rfl
    have p0 : w7.cell? ⟨w.heap.size + 1 + 1, 0, none⟩ = some (.int .i64 n1) := NR7.out.at_ 0
    have p1 : w7.cell? ⟨w.heap.size + 1 + 1, 1, none⟩ = some (.int .i64 n2) := NR7.out.at_ 1
    have p2 : w7.cell? ⟨w.heap.size + 1 + 1, 2, none⟩ = some (.int .i64 n3) := NR7.out.at_ 2
    have l0 : w7.cell? ⟨w4.heap.size, 0, none⟩ = some (.int .i64 n1) := LR7.out.at_ 0
    have l1 : w7.cell? ⟨w4.heap.size, 1, none⟩ = some (.int .i64 m) := LR7.out.at_ 1
    have l2 : w7.cell? ⟨w4.heap.size, 2, none⟩ = some (.int .i64 n3) := LR7.out.at_ 2
    rw [HL6.out.1 trivial]
    go_wp2_with fail
    refine (C2.out (by trivial) ⟨n1, n2, n3⟩ NW.out _ G7.out).mono ?_
    rintro er w8 ⟨rfl, b2⟩
    have G8 := Lib.hid (below_trans G7.out b2); have HC8 := Lib.hid (HC7.out.kept Z7.out b2); have LR8 := Lib.hid (LR7.out.under b2); have NR8 := Lib.hid (NR7.out.under b2)
    have Z8 : Hid (w.heap.size < w8.heap.size) := Lib.hid (Nat.lt_of_lt_of_le Z7.out b2.size)
    clear b2 d0 d1 d2 d3 p0 p1 p2 l0 l1 l2
    have d0 : w8.cell? ⟨w.heap.size, 0, none⟩ = some (.slice an ln cn) := HC8.out 0 _ rfl
    have d1 : w8.cell? ⟨w.heap.size, 1, none⟩ = some (.slice ah lh ch) := HC8.out 1 _ rfl
    have d2 : w8.cell? ⟨w.heap.size, 2, none⟩ = some (.int .i64 half) := HC8.out 2 _ rfl
    have d3 : w8.cell? ⟨w.heap.size, 3, none⟩ = some (.int .i64 age) := HC8.out 3 _ rfl
    have p0 : w8.cell? ⟨w.heap.size + 1 + 1, 0, none⟩ = some (.int .i64 n1) := NR8.out.at_ 0
    have p1 : w8.cell? ⟨w.heap.size + 1 + 1, 1, none⟩ = some (.int .i64 n2) := NR8.out.at_ 1
    have p2 : w8.cell? ⟨w.heap.size + 1 + 1, 2, none⟩ = some (.int .i64 n3) := NR8.out.at_ 2
    have l0 : w8.cell? ⟨w4.heap.size, 0, none⟩ = some (.int .i64 n1) := LR8.out.at_ 0
    have l1 : w8.cell? ⟨w4.heap.size, 1, none⟩ = some (.int .i64 m) := LR8.out.at_ 1
    have l2 : w8.cell? ⟨w4.heap.size, 2, none⟩ = some (.int .i64 n3) := LR8.out.at_ 2
    have hi := HL6.out.2
    obtain ⟨i, hI⟩ : ∃ i, I ⟨n1, n2, n3⟩ = i := ⟨_, rfl⟩
    rw [hI] at hi ⊢
    have HI := Lib.hid hi
    clear hi hI
    cases i
    · go_wp2_with fail
      refine (cA.out _).mono ?_
      rintro er wz ⟨rfl, bz⟩
      have GZ := Lib.hid (below_trans G8.out bz); clear bz
      go_wp2_with fail
      go_ret
      exact ⟨rfl, GZ.out⟩
    go_wp2_with fail
    refine (C2.out (by trivial) ⟨n1, m, n3⟩ MW.out _ G8.out).mono ?_
    rintro er w9 ⟨rfl, b2⟩
    have G9 := Lib.hid (below_trans G8.out b2); have HC9 := Lib.hid (HC8.out.kept Z8.out b2); have LR9 := Lib.hid (LR8.out.under b2); have NR9 := Lib.hid (NR8.out.under b2)
    have Z9 : Hid (w.heap.size < w9.heap.size) := Lib.hid (Nat.lt_of_lt_of_le Z8.out b2.size)
    clear b2 d0 d1 d2 d3 p0 p1 p2 l0 l1 l2
    rw [HI.out trivial]
    go_wp2_with fail
    refine (cA.out _).mono ?_
    rintro er wz ⟨rfl, bz⟩
    have GZ := Lib.hid (below_trans G9.out bz); clear bz
    go_wp2_with fail
    go_ret
    exact ⟨rfl, GZ.out⟩
  · rw [show wrap64 2 = 2 from by (first | rfl | (unfold wrap64; omega) | simp [wrap64])]
    have l0 : (w4.alloc (.cells #[.int .i64 n1, .int .i64 n2, .int .i64 n3] 29)).cell? ⟨w4.heap.size, 2, none⟩ = some (.int .i64 n3) := LR5.out.at_ 2
    have fz : (w4.alloc (.cells #[.int .i64 n1, .int .i64 n2, .int .i64 n3] 29)).frozen? ⟨w4.heap.size, 2, none⟩ = false := World.frozen?_alloc_at (w := w4) _ _ _ 2 rfl
    go_upto_region 7 with fail
    obtain ⟨m, hm, m0, m1, mi⟩ := less_half ((fun h => h.2.2) II.out) ((fun h => h.2.2) (HVV.out trivial))
    rw [hm]
    have al6 : Below w4.heap.size w4 (w4.alloc (.cells #[.int .i64 n1, .int .i64 n2, .int .i64 m] 29)) := (Below.refl _ _).alloc (Nat.le_refl _) _
    have G6 := Lib.hid (below_trans G4.out al6); have HC6 := Lib.hid (HC4.out.kept Z4.out.1 al6); have NR6 := Lib.hid (NR4.out.under al6)
    have LR6 := Lib.hid (show Row (w4.alloc (.cells #[.int .i64 n1, .int .i64 n2, .int .i64 m] 29)) w4.heap.size #[.int .i64 n1, .int .i64 n2, .int .i64 m] 29 from Row.new w4 _ _)
    have Z6 : Hid (w.heap.size < (w4.alloc (.cells #[.int .i64 n1, .int .i64 n2, .int .i64 m] 29)).heap.size) := Lib.hid (Nat.lt_of_lt_of_le Z4.out.1 al6.size)
    obtain ⟨w6, hw6⟩ : ∃ v, w4.alloc (.cells #[.int .i64 n1, .int .i64 n2, .int .i64 m] 29) = v := ⟨_, rfl⟩
    rw [hw6] at G6 HC6 NR6 LR6 Z6 ⊢
    have MW : Hid (V3.wide ⟨n1, n2, m⟩) := Lib.hid ⟨II.out.1, II.out.2.1, mi⟩
    have HL6 := Lib.hid (HLM.out ⟨n1, n2, m⟩ ⟨Int.le_refl _, Int.le_refl _, m1⟩)
    clear al6 hw6 hm l0 fz r4 G5 HC5 HN5 LR5 Z5 p0 p1 p2
    have d0 : w6.cell? ⟨w.heap.size, 0, none⟩ = some (.slice an ln cn) := HC6.out 0 _ rfl
    have d1 : w6.cell? ⟨w.heap.size, 1, none⟩ = some (.slice ah lh ch) := HC6.out 1 _ rfl
    have d2 : w6.cell? ⟨w.heap.size, 2, none⟩ = some (.int .i64 half) := HC6.out 2 _ rfl
    have d3 : w6.cell? ⟨w.heap.size, 3, none⟩ = some (.int .i64 age) := HC6.out 3 _ rfl
    have p0 : w6.cell? ⟨w.heap.size + 1 + 1, 0, none⟩ = some (.int .i64 n1) := NR6.out.at_ 0
    have p1 : w6.cell? ⟨w.heap.size + 1 + 1, 1, none⟩ = some (.int .i64 n2) := NR6.out.at_ 1
    have p2 : w6.cell? ⟨w.heap.size + 1 + 1, 2, none⟩ = some (.int .i64 n3) := NR6.out.at_ 2
    have l0 : w6.cell? ⟨w4.heap.size, 0, none⟩ = some (.int .i64 n1) := LR6.out.at_ 0
    have l1 : w6.cell? ⟨w4.heap.size, 1, none⟩ = some (.int .i64 n2) := LR6.out.at_ 1
    have l2 : w6.cell? ⟨w4.heap.size, 2, none⟩ = some (.int .i64 m) := LR6.out.at_ 2
    go_wp2_with fail
    refine (C1.out (by trivial) ⟨n1, n2, m⟩ MW.out _ G6.out).mono ?_
    rintro er w7 ⟨rfl, b2⟩
    have G7 := Lib.hid (below_trans G6.out b2); have HC7 := Lib.hid (HC6.out.kept Z6.out b2); have LR7 := Lib.hid (LR6.out.under b2); have NR7 := Lib.hid (NR6.out.under b2)
    have Z7 : Hid (w.heap.size < w7.heap.size) := Lib.hid (Nat.lt_of_lt_of_le Z6.out b2.size)
    clear b2 d0 d1 d2 d3 p0 p1 p2 l0 l1 l2
    have d0 : w7.cell? ⟨w.heap.size, 0, none⟩ = some (.slice an ln cn) := HC7.out 0 _ rfl
    have d1 : w7.cell? ⟨w.heap.size, 1, none⟩ = some (.slice ah lh ch) := HC7.out 1 _ rfl
    have d2 : w7.cell? ⟨w.heap.size, 2, none⟩ = some (.int .i64 half) := HC7.out 2 _ rfl
    have d3 : w7.cell? ⟨w.heap.size, 3, none⟩ = some (.int .i64 age) := HC7.out 3 _ rfl
    have p0 : w7.cell? ⟨w.heap.size + 1 + 1, 0, none⟩ = some (.int .i64 n1) := NR7.out.at_ 0
    have p1 : w7.cell? ⟨w.heap.size + 1 + 1, 1, none⟩ = some (.int .i64 n2) := NR7.out.at_ 1
    have p2 : w7.cell? ⟨w.heap.size + 1 + 1, 2, none⟩ = some (.int .i64 n3) := NR7.out.at_ 2
    have l0 : w7.cell? ⟨w4.heap.size, 0, none⟩ = some (.int .i64 n1) := LR7.out.at_ 0
    have l1 : w7.cell? ⟨w4.heap.size, 1, none⟩ = some (.int .i64 n2) := LR7.out.at_ 1
    have l2 : w7.cell? ⟨w4.heap.size, 2, none⟩ = some (.int .i64 m) := LR7.out.at_ 2
    rw [HL6.out.1 trivial]
    go_wp2_with fail
    refine (C2.out (by trivial) ⟨n1, n2, n3⟩ NW.out _ G7.out).mono ?_
    rintro er w8 ⟨rfl, b2⟩
    have G8 := Lib.hid (below_trans G7.out b2); have HC8 := Lib.hid (HC7.out.kept Z7.out b2); have LR8 := Lib.hid (LR7.out.under b2); have NR8 := Lib.hid (NR7.out.under b2)
    have Z8 : Hid (w.heap.size < w8.heap.size) := Lib.hid (Nat.lt_of_lt_of_le Z7.out b2.size)
    clear b2 d0 d1 d2 d3 p0 p1 p2 l0 l1 l2
    have d0 : w8.cell? ⟨w.heap.size, 0, none⟩ = some (.slice an ln cn) := HC8.out 0 _ rfl
    have d1 : w8.cell? ⟨w.heap.size, 1, none⟩ = some (.slice ah lh ch) := HC8.out 1 _ rfl
    have d2 : w8.cell? ⟨w.heap.size, 2, none⟩ = some (.int .i64 half) := HC8.out 2 _ rfl
    have d3 : w8.cell? ⟨w.heap.size, 3, none⟩ = some (.int .i64 age) := HC8.out 3 _ rfl
    have p0 : w8.cell? ⟨w.heap.size + 1 + 1, 0, none⟩ = some (.int .i64 n1) := NR8.out.at_ 0
    have p1 : w8.cell? ⟨w.heap.size + 1 + 1, 1, none⟩ = some (.int .i64 n2) := NR8.out.at_ 1
    have p2 : w8.cell? ⟨w.heap.size + 1 + 1, 2, none⟩ = some (.int .i64 n3) := NR8.out.at_ 2
    have l0 : w8.cell? ⟨w4.heap.size, 0, none⟩ = some (.int .i64 n1) := LR8.out.at_ 0
    have l1 : w8.cell? ⟨w4.heap.size, 1, none⟩ = some (.int .i64 n2) := LR8.out.at_ 1
    have l2 : w8.cell? ⟨w4.heap.size, 2, none⟩ = some (.int .i64 m) := LR8.out.at_ 2
    have hi := HL6.out.2
    obtain ⟨i, hI⟩ : ∃ i, I ⟨n1, n2, n3⟩ = i := ⟨_, rfl⟩
    rw [hI] at hi ⊢
    have HI := Lib.hid hi
    clear hi hI
    cases i
    · go_wp2_with fail
      refine (cA.out _).mono ?_
      rintro er wz ⟨rfl, bz⟩
      have GZ := Lib.hid (below_trans G8.out bz); clear bz
      go_wp2_with fail
      go_ret
      exact ⟨rfl, GZ.out⟩
    go_wp2_with fail
    refine (C2.out (by trivial) ⟨n1, n2, m⟩ MW.out _ G8.out).mono ?_
    rintro er w9 ⟨rfl, b2⟩
    have G9 := Lib.hid (below_trans G8.out b2); have HC9 := Lib.hid (HC8.out.kept Z8.out b2); have LR9 := Lib.hid (LR8.out.under b2); have NR9 := Lib.hid (NR8.out.under b2)
    have Z9 : Hid (w.heap.size < w9.heap.size) := Lib.hid (Nat.lt_of_lt_of_le Z8.out b2.size)
    clear b2 d0 d1 d2 d3 p0 p1 p2 l0 l1 l2
    rw [HI.out trivial]
    go_wp2_with fail
    refine (cA.out _).mono ?_
    rintro er wz ⟨rfl, bz⟩
    have GZ := Lib.hid (below_trans G9.out bz); clear bz
    go_wp2_with fail
    go_ret
    exact ⟨rfl, GZ.out⟩

end Go.Proofs.Ytkakgjmajplgmaa

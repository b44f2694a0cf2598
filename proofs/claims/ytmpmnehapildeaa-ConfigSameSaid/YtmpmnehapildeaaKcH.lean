/- The landed configuration: two compared; all that it is held to. -/
import Derived.Test.YtmpmnehapildeaaKcG
namespace Go.Proofs.Ytmpmnehapildeaa
open Go.RowKit
set_option linter.unusedVariables false

set_option maxHeartbeats 1000000 in
set_option maxRecDepth 8000 in
theorem kEqualNodes (l m : List Nd) (an bn : Option Addr) (cn nb no cn' nb' no' : Nat) (w : World) (hN : Sl Nd.c 22 11 w an cn nb no l) (hN' : Sl Nd.c 22 11 w bn cn' nb' no' m) :
    Calls Try.prog 20 #[.slice an l.length cn, .slice bn m.length cn'] w (RetBelow (.bool (decide (l = m))) w) := by
  obtain ⟨F, hF⟩ : ∃ f, decide (l = m) = f := ⟨_, rfl⟩
  have hyes : l = m → F = true := fun h => by rw [← hF]; exact decide_eq_true h
  have hno : ¬ l = m → F = false := fun h => by rw [← hF]; exact decide_eq_false h
  rw [hF]
  clear hF
  have hNi := hN.idx; have hNi' := hN'.idx
  have n63 := hN.small
  obtain ⟨nl, hnl⟩ : ∃ n, l.length = n := ⟨_, rfl⟩
  obtain ⟨nl', hnl'⟩ : ∃ n, m.length = n := ⟨_, rfl⟩
  rw [hnl] at hNi n63 ⊢
  rw [hnl'] at hNi' ⊢
  obtain ⟨zn, hzn⟩ : ∃ z : Int, (nl : Int) = z := ⟨_, rfl⟩
  have HY := Lib.hid hyes; have HNO := Lib.hid hno
  have HL := Lib.hid (And.intro hnl hnl')
  have HNI := Lib.hid hNi; have HNI' := Lib.hid hNi'
  have HN := Lib.hid hN; have HN' := Lib.hid hN'
  clear hyes hno hNi hNi' hN hN' hnl hnl'
  by_cases e1 : nl = nl'
  · subst e1
    go_enter Try.func20, Try.ntmps20
    go_wp2_with fail
    go_loopw [13] (fun i wr => ∃ (j : Int), i = .int .i64 j ∧ 0 ≤ j ∧ j ≤ zn ∧ Hid (Agree l m j ∧ Below w.heap.size w wr)) (fun i _ => (zn - intOf i).toNat)
    case atStart => exact ⟨0, rfl, by omega, by omega, Agree.zero _ _, Below.refl _ _⟩
    case round =>
      obtain ⟨j, rfl, hj0, hjz, hd⟩ := hrel
      by_cases hlt : j < zn
      · obtain ⟨x, hx⟩ : ∃ x, l[j.toNat]? = some x := ⟨_, List.getElem?_eq_getElem (by have := HL.out; omega)⟩
        obtain ⟨y, hy⟩ : ∃ x, m[j.toNat]? = some x := ⟨_, List.getElem?_eq_getElem (by have := HL.out; omega)⟩
        have hi := HNI.out j.toNat (by omega)
        have hi' := HNI'.out j.toNat (by omega)
        rw [show ((j.toNat : Nat) : Int) = j by omega] at hi hi'
        have l1 := fun w2 (g : Below wr.heap.size wr w2) => run_loadAt_mid (P := Try.prog) w2 nb (no + j.toNat * 11) 35 x.c.toList _ ((HN.out.kept (below_trans hd.out.2 g)).at_ j.toNat x hx) Try.underlying35 rfl node_len
        have l2 := fun w2 (g : Below wr.heap.size wr w2) => run_loadAt_mid (P := Try.prog) w2 nb' (no' + j.toNat * 11) 35 y.c.toList _ ((HN'.out.kept (below_trans hd.out.2 g)).at_ j.toNat y hy) Try.underlying35 rfl node_len
        have nq := fun w => node_neq w x y
        obtain ⟨r, hr⟩ : ∃ r, (!decide (x = y)) = r := ⟨_, rfl⟩
        rw [hr] at nq
        have L1 := Lib.hid l1; have L2 := Lib.hid l2
        have HX := Lib.hid hx; have HYY := Lib.hid hy; have HI := Lib.hid hi; have HI' := Lib.hid hi'; have RR := Lib.hid hr; have NQ_ := Lib.hid nq
        clear l1 l2 hx hy hi hi' hr nq
        go_wp2_with fail
        refine region_quiet (fun w2 => Below wr.heap.size wr w2) (by kernel_rfl) (by kernel_rfl) (below_drewN (Below.refl _ _) 1) ?_
        repeat (first
          | (go_big_quiet_skip)
          | (with_reducible refine quiet_index 22 _ _ _ _ _ HI.out rfl rfl rfl ?_ ?_; (focus kernel_rfl); simp only [Act.put, List.setIfInBounds_toArray, List.set_cons_zero, List.set_cons_succ])
          | (with_reducible refine quiet_index 22 _ _ _ _ _ HI'.out rfl rfl rfl ?_ ?_; (focus kernel_rfl); simp only [Act.put, List.setIfInBounds_toArray, List.set_cons_zero, List.set_cons_succ])
          | (with_reducible refine quiet_load _ _ 35 _ L1.out rfl rfl ?_ ?_; (focus kernel_rfl); simp only [Act.put, List.setIfInBounds_toArray, List.set_cons_zero, List.set_cons_succ])
          | (with_reducible refine quiet_load _ _ 35 _ L2.out rfl rfl ?_ ?_; (focus kernel_rfl); simp only [Act.put, List.setIfInBounds_toArray, List.set_cons_zero, List.set_cons_succ])
          | (refine quiet_bin .neq 35 _ _ _ _ _ _ rfl rfl rfl NQ_.out (fun w => node_guard w _ _ _ _ _) ?_ ?_; (focus kernel_rfl); simp only [Act.put, List.setIfInBounds_toArray, List.set_cons_zero, List.set_cons_succ])
          | (go_big_quiet_step ((intro g2; (with_reducible rfl)))))
        refine wpQuiet_nil ?_
        intro w2 g2
        have G2 := Lib.hid (below_trans hd.out.2 g2); clear g2
        cases r
        · have hxy : x = y := by simpa using RR.out
          subst hxy
          go_wp2_with fail
          go_roundw
          case rel => exact ⟨j + 1, rfl, by omega, by omega, hd.out.1.succ hj0 (HX.out.trans HYY.out.symm), G2.out⟩
          case measure => simp [intOf]; omega
        · have hxy : ¬ x = y := by simpa using RR.out
          have hf : F = false := HNO.out (fun e => hxy (by
            have h := congrArg (fun l => l[j.toNat]?) e
            simp only [HX.out, HYY.out] at h
            injection h))
          subst hf
          clear hxy
          go_wp2_with fail
          go_ret
          exact ⟨rfl, G2.out⟩
      · have hall := hd.out.1.eq (by have := HL.out; omega) (by have := HL.out; omega)
        have hf := HY.out hall
        subst hf
        have D2 := Lib.hid hd.out.2
        clear hd hall
        go_wp2_with fail
        go_ret
        exact ⟨rfl, D2.out⟩
  · have e1' : ¬ (nl : Int) = (nl' : Int) := by omega
    obtain ⟨zn', hzn'⟩ : ∃ z : Int, (nl' : Int) = z := ⟨_, rfl⟩
    rw [hzn, hzn'] at e1'
    have hf : F = false := HNO.out (fun e => e1 (by have h := congrArg List.length e; have := HL.out; omega))
    subst hf
    go_enter Try.func20, Try.ntmps20
    go_wp2_with fail
    go_ret
    exact ⟨rfl, Below.refl _ _⟩

set_option maxHeartbeats 1000000 in
set_option maxRecDepth 8000 in
theorem kEqualHosts (l m : List Hs) (an bn : Option Addr) (cn nb no cn' nb' no' : Nat) (w : World) (hN : Sl Hs.c 23 6 w an cn nb no l) (hN' : Sl Hs.c 23 6 w bn cn' nb' no' m) :
    Calls Try.prog 21 #[.slice an l.length cn, .slice bn m.length cn'] w (RetBelow (.bool (decide (l = m))) w) := by
  obtain ⟨F, hF⟩ : ∃ f, decide (l = m) = f := ⟨_, rfl⟩
  have hyes : l = m → F = true := fun h => by rw [← hF]; exact decide_eq_true h
  have hno : ¬ l = m → F = false := fun h => by rw [← hF]; exact decide_eq_false h
  rw [hF]
  clear hF
  have hNi := hN.idx; have hNi' := hN'.idx
  have n63 := hN.small
  obtain ⟨nl, hnl⟩ : ∃ n, l.length = n := ⟨_, rfl⟩
  obtain ⟨nl', hnl'⟩ : ∃ n, m.length = n := ⟨_, rfl⟩
  rw [hnl] at hNi n63 ⊢
  rw [hnl'] at hNi' ⊢
  obtain ⟨zn, hzn⟩ : ∃ z : Int, (nl : Int) = z := ⟨_, rfl⟩
  have HY := Lib.hid hyes; have HNO := Lib.hid hno
  have HL := Lib.hid (And.intro hnl hnl')
  have HNI := Lib.hid hNi; have HNI' := Lib.hid hNi'
  have HN := Lib.hid hN; have HN' := Lib.hid hN'
  clear hyes hno hNi hNi' hN hN' hnl hnl'
  by_cases e1 : nl = nl'
  · subst e1
    go_enter Try.func21, Try.ntmps21
    go_wp2_with fail
    go_loopw [13] (fun i wr => ∃ (j : Int), i = .int .i64 j ∧ 0 ≤ j ∧ j ≤ zn ∧ Hid (Agree l m j ∧ Below w.heap.size w wr)) (fun i _ => (zn - intOf i).toNat)
    case atStart => exact ⟨0, rfl, by omega, by omega, Agree.zero _ _, Below.refl _ _⟩
    case round =>
      obtain ⟨j, rfl, hj0, hjz, hd⟩ := hrel
      by_cases hlt : j < zn
      · obtain ⟨x, hx⟩ : ∃ x, l[j.toNat]? = some x := ⟨_, List.getElem?_eq_getElem (by have := HL.out; omega)⟩
        obtain ⟨y, hy⟩ : ∃ x, m[j.toNat]? = some x := ⟨_, List.getElem?_eq_getElem (by have := HL.out; omega)⟩
        have hi := HNI.out j.toNat (by omega)
        have hi' := HNI'.out j.toNat (by omega)
        rw [show ((j.toNat : Nat) : Int) = j by omega] at hi hi'
        have l1 := fun w2 (g : Below wr.heap.size wr w2) => run_loadAt_mid (P := Try.prog) w2 nb (no + j.toNat * 6) 44 x.c.toList _ ((HN.out.kept (below_trans hd.out.2 g)).at_ j.toNat x hx) Try.underlying44 rfl host_len
        have l2 := fun w2 (g : Below wr.heap.size wr w2) => run_loadAt_mid (P := Try.prog) w2 nb' (no' + j.toNat * 6) 44 y.c.toList _ ((HN'.out.kept (below_trans hd.out.2 g)).at_ j.toNat y hy) Try.underlying44 rfl host_len
        have nq := fun w => host_neq w x y
        obtain ⟨r, hr⟩ : ∃ r, (!decide (x = y)) = r := ⟨_, rfl⟩
        rw [hr] at nq
        have L1 := Lib.hid l1; have L2 := Lib.hid l2
        have HX := Lib.hid hx; have HYY := Lib.hid hy; have HI := Lib.hid hi; have HI' := Lib.hid hi'; have RR := Lib.hid hr; have NQ_ := Lib.hid nq
        clear l1 l2 hx hy hi hi' hr nq
        go_wp2_with fail
        refine region_quiet (fun w2 => Below wr.heap.size wr w2) (by kernel_rfl) (by kernel_rfl) (below_drewN (Below.refl _ _) 1) ?_
        repeat (first
          | (go_big_quiet_skip)
          | (with_reducible refine quiet_index 23 _ _ _ _ _ HI.out rfl rfl rfl ?_ ?_; (focus kernel_rfl); simp only [Act.put, List.setIfInBounds_toArray, List.set_cons_zero, List.set_cons_succ])
          | (with_reducible refine quiet_index 23 _ _ _ _ _ HI'.out rfl rfl rfl ?_ ?_; (focus kernel_rfl); simp only [Act.put, List.setIfInBounds_toArray, List.set_cons_zero, List.set_cons_succ])
          | (with_reducible refine quiet_load _ _ 44 _ L1.out rfl rfl ?_ ?_; (focus kernel_rfl); simp only [Act.put, List.setIfInBounds_toArray, List.set_cons_zero, List.set_cons_succ])
          | (with_reducible refine quiet_load _ _ 44 _ L2.out rfl rfl ?_ ?_; (focus kernel_rfl); simp only [Act.put, List.setIfInBounds_toArray, List.set_cons_zero, List.set_cons_succ])
          | (refine quiet_bin .neq 44 _ _ _ _ _ _ rfl rfl rfl NQ_.out (fun w => host_guard w _ _ _ _ _) ?_ ?_; (focus kernel_rfl); simp only [Act.put, List.setIfInBounds_toArray, List.set_cons_zero, List.set_cons_succ])
          | (go_big_quiet_step ((intro g2; (with_reducible rfl)))))
        refine wpQuiet_nil ?_
        intro w2 g2
        have G2 := Lib.hid (below_trans hd.out.2 g2); clear g2
        cases r
        · have hxy : x = y := by simpa using RR.out
          subst hxy
          go_wp2_with fail
          go_roundw
          case rel => exact ⟨j + 1, rfl, by omega, by omega, hd.out.1.succ hj0 (HX.out.trans HYY.out.symm), G2.out⟩
          case measure => simp [intOf]; omega
        · have hxy : ¬ x = y := by simpa using RR.out
          have hf : F = false := HNO.out (fun e => hxy (by
            have h := congrArg (fun l => l[j.toNat]?) e
            simp only [HX.out, HYY.out] at h
            injection h))
          subst hf
          clear hxy
          go_wp2_with fail
          go_ret
          exact ⟨rfl, G2.out⟩
      · have hall := hd.out.1.eq (by have := HL.out; omega) (by have := HL.out; omega)
        have hf := HY.out hall
        subst hf
        have D2 := Lib.hid hd.out.2
        clear hd hall
        go_wp2_with fail
        go_ret
        exact ⟨rfl, D2.out⟩
  · have e1' : ¬ (nl : Int) = (nl' : Int) := by omega
    obtain ⟨zn', hzn'⟩ : ∃ z : Int, (nl' : Int) = z := ⟨_, rfl⟩
    rw [hzn, hzn'] at e1'
    have hf : F = false := HNO.out (fun e => e1 (by have h := congrArg List.length e; have := HL.out; omega))
    subst hf
    go_enter Try.func21, Try.ntmps21
    go_wp2_with fail
    go_ret
    exact ⟨rfl, Below.refl _ _⟩

set_option maxRecDepth 4000 in
theorem kSame (a b : Cmd) (va ha vb hb : Value) (w : World) (h1 : CmAt a va ha w) (h2 : CmAt b vb hb w) : Calls Try.prog 10 #[.agg (a.f va ha), .agg (b.f vb hb)] w (RetBelow (.bool (Cm.sameC a b)) w) := by
  obtain ⟨an, cn, nb, no, ah, ch, hb, ho, rfl, rfl, s1, s2⟩ := h1
  obtain ⟨bn, cn', nb', no', bh, ch', hb', ho', rfl, rfl, s3, s4⟩ := h2
  have hk : Cm.sameC a b = (decide (a.nodes = b.nodes) && decide (a.hosts = b.hosts) && decide (a.half = b.half) && decide (a.age = b.age)) := rfl
  have c1 := fun w2 (g : Below w.heap.size w w2) => kEqualNodes a.nodes b.nodes an bn cn nb no cn' nb' no' w2 (s1.kept g) (s3.kept g)
  have c2 := fun w2 (g : Below w.heap.size w w2) => kEqualHosts a.hosts b.hosts ah bh ch hb ho ch' hb' ho' w2 (s2.kept g) (s4.kept g)
  obtain ⟨K, hK⟩ : ∃ k, Cm.sameC a b = k := ⟨_, rfl⟩
  rw [hK] at hk ⊢
  obtain ⟨m1, e1⟩ : ∃ q, decide (a.nodes = b.nodes) = q := ⟨_, rfl⟩
  obtain ⟨m2, e2⟩ : ∃ q, decide (a.hosts = b.hosts) = q := ⟨_, rfl⟩
  rw [e1] at c1 hk
  rw [e2] at c2 hk
  obtain ⟨kind, nodes, hosts, half, age, g, n⟩ := a
  obtain ⟨kind', nodes', hosts', half', age', g', n'⟩ := b
  simp only [Cmd.f] at c1 c2 hk ⊢
  obtain ⟨nl, hnl⟩ : ∃ n, nodes.length = n := ⟨_, rfl⟩
  obtain ⟨hl, hhl⟩ : ∃ n, hosts.length = n := ⟨_, rfl⟩
  obtain ⟨nl', hnl'⟩ : ∃ n, nodes'.length = n := ⟨_, rfl⟩
  obtain ⟨hl', hhl'⟩ : ∃ n, hosts'.length = n := ⟨_, rfl⟩
  rw [hnl, hnl'] at c1
  rw [hhl, hhl'] at c2
  rw [hnl, hhl, hnl', hhl']
  have C1 := Lib.hid c1; have C2 := Lib.hid c2; have HK := Lib.hid hk
  clear c1 c2 hk e1 e2 hK s1 s2 s3 s4 hnl hhl hnl' hhl'
  have G0 := Lib.hid (two_below w (.cells #[.slice an nl cn, .slice ah hl ch, .int .i64 half, .int .i64 age] 25) (.cells #[.slice bn nl' cn', .slice bh hl' ch', .int .i64 half', .int .i64 age'] 25))
  have HA0 := Lib.hid ((Holds.new w #[.slice an nl cn, .slice ah hl ch, .int .i64 half, .int .i64 age] 25).kept (by rw [World.size_alloc]; omega) ((Below.refl _ _).alloc (Nat.le_refl _) (.cells #[.slice bn nl' cn', .slice bh hl' ch', .int .i64 half', .int .i64 age'] 25)))
  have hb0 := Holds.new (w.alloc (.cells #[.slice an nl cn, .slice ah hl ch, .int .i64 half, .int .i64 age] 25)) #[.slice bn nl' cn', .slice bh hl' ch', .int .i64 half', .int .i64 age'] 25
  rw [World.size_alloc] at hb0
  have HB0 := Lib.hid hb0
  have L0 := Lib.hid (show w.heap.size + 1 < ((w.alloc (.cells #[.slice an nl cn, .slice ah hl ch, .int .i64 half, .int .i64 age] 25)).alloc (.cells #[.slice bn nl' cn', .slice bh hl' ch', .int .i64 half', .int .i64 age'] 25)).heap.size by rw [World.size_alloc, World.size_alloc]; omega)
  clear hb0
  go_enter Try.func10, Try.ntmps10
  go_wp2_with fail
  refine (C1.out _ G0.out).mono ?_
  rintro er w1 ⟨rfl, b1⟩
  have G1 := Lib.hid (below_trans G0.out b1); have A1 := Lib.hid (HA0.out.kept (by have := L0.out; omega) b1); have B1 := Lib.hid (HB0.out.kept L0.out b1); have L1 := Lib.hid (Nat.lt_of_lt_of_le L0.out b1.size)
  clear b1
  cases m1
  · have hf : K = false := HK.out.trans (by simp)
    subst hf
    go_wp2_with fail
    go_ret
    exact ⟨rfl, G1.out⟩
  have q1 : w1.cell? ⟨w.heap.size, 1, none⟩ = some (.slice ah hl ch) := A1.out 1 _ rfl
  have q2 : w1.cell? ⟨w.heap.size + 1, 1, none⟩ = some (.slice bh hl' ch') := B1.out 1 _ rfl
  go_wp2_with fail
  refine (C2.out _ G1.out).mono ?_
  rintro er w2 ⟨rfl, b2⟩
  have G2 := Lib.hid (below_trans G1.out b2); have A2 := Lib.hid (A1.out.kept (by have := L1.out; omega) b2); have B2 := Lib.hid (B1.out.kept L1.out b2)
  clear b2 q1 q2
  cases m2
  · have hf : K = false := HK.out.trans (by simp)
    subst hf
    go_wp2_with fail
    go_ret
    exact ⟨rfl, G2.out⟩
  have q1 : w2.cell? ⟨w.heap.size, 2, none⟩ = some (.int .i64 half) := A2.out 2 _ rfl
  have q2 : w2.cell? ⟨w.heap.size + 1, 2, none⟩ = some (.int .i64 half') := B2.out 2 _ rfl
  have q3 : w2.cell? ⟨w.heap.size, 3, none⟩ = some (.int .i64 age) := A2.out 3 _ rfl
  have q4 : w2.cell? ⟨w.heap.size + 1, 3, none⟩ = some (.int .i64 age') := B2.out 3 _ rfl
  by_cases e1 : half = half'
  · subst e1
    have hf : K = (age == age') := HK.out.trans (by rw [Bool.eq_iff_iff]; simp)
    subst hf
    go_wp2_with fail
    go_ret
    exact ⟨rfl, G2.out⟩
  · have hf : K = false := HK.out.trans (by simp [e1])
    subst hf
    have e1' : (half == half') = false := by simpa using e1
    go_wp2_with fail
    go_ret
    exact ⟨rfl, G2.out⟩

/-- All that the configuration's statements are walked over. -/
theorem theCfC : CfC where
  check := fun c vn vh w _ h => kCheck c vn vh w h
  leaf := fun c vn vh n w _ hn hl h => kLeaf c vn vh n w hn hl h
  leaves := fun c vn vh w _ hl h => kLeaves c vn vh w hl h
  same := fun a b va ha vb hb w _ _ _ _ h1 h2 => kSame a b va ha vb hb w h1 h2

end Go.Proofs.Ytmpmnehapildeaa

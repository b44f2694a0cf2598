/- The landed commands compared: Equal, sameConfig, Same. -/
import Derived.Test.YtpnfhcpapjomnaaCmdK
import Derived.Test.YtpnfhcpapjomnaaCmdT
namespace Go.Proofs.Ytpnfhcpapjomnaa
open Go.RowKit
set_option linter.unusedVariables false

set_option maxHeartbeats 1000000 in
set_option maxRecDepth 8000 in
theorem eqNodes_any (l m : List Nd) (al am : Option Addr) (cl cm bl ol bm om : Nat) (w : World) (hN : Sl Nd.c 22 11 w al cl bl ol l) (hM : Sl Nd.c 22 11 w am cm bm om m) :
    Calls Try.prog 52 #[.slice al l.length cl, .slice am m.length cm] w (RetBelow (.bool (decide (l = m))) w) := by
  obtain ⟨F, hF⟩ : ∃ f, decide (l = m) = f := ⟨_, rfl⟩
  have hyes : l = m → F = true := fun h => by rw [← hF]; simp [h]
  have hno : ¬ (l = m) → F = false := fun h => by rw [← hF]; simp [h]
  rw [hF]
  clear hF
  have hNi := hN.idx; have hMi := hM.idx
  have n63 := hN.small; have m63 := hM.small
  obtain ⟨nl, hnl⟩ : ∃ n, l.length = n := ⟨_, rfl⟩
  obtain ⟨ml, hml⟩ : ∃ n, m.length = n := ⟨_, rfl⟩
  rw [hnl] at hNi n63 ⊢
  rw [hml] at hMi m63 ⊢
  obtain ⟨zn, hzn⟩ : ∃ z : Int, (nl : Int) = z := ⟨_, rfl⟩
  have HY := Lib.hid hyes; have HNO := Lib.hid hno; have HL := Lib.hid (And.intro hnl hml)
  have HNI := Lib.hid hNi; have HMI := Lib.hid hMi; have HN := Lib.hid hN; have HM := Lib.hid hM
  clear hyes hno hNi hMi hN hM hnl hml
  by_cases e1 : nl = ml
  · subst e1
    go_enter Try.func52, Try.ntmps52
    go_wp2_with fail
    go_loopw [13] (fun i wr => ∃ (j : Int), i = .int .i64 j ∧ 0 ≤ j ∧ j ≤ zn ∧ Hid (Agree l m j ∧ Below w.heap.size w wr)) (fun i _ => (zn - intOf i).toNat)
    case atStart => exact ⟨0, rfl, by omega, by omega, Agree.zero _ _, Below.refl _ _⟩
    case round =>
      obtain ⟨j, rfl, hj0, hjz, hd⟩ := hrel
      by_cases hlt : j < zn
      · obtain ⟨x, hx⟩ : ∃ x, l[j.toNat]? = some x := ⟨_, List.getElem?_eq_getElem (by have := HL.out; omega)⟩
        obtain ⟨y, hy⟩ : ∃ x, m[j.toNat]? = some x := ⟨_, List.getElem?_eq_getElem (by have := HL.out; omega)⟩
        have hi := HNI.out j.toNat (by omega)
        have hi' := HMI.out j.toNat (by omega)
        rw [show ((j.toNat : Nat) : Int) = j by omega] at hi hi'
        have l1 := fun w2 (g : Below wr.heap.size wr w2) => run_loadAt_mid (P := Try.prog) w2 bl (ol + j.toNat * 11) 78 x.c.toList _ ((HN.out.kept (below_trans hd.out.2 g)).at_ j.toNat x hx) Try.underlying78 rfl node_len
        have l2 := fun w2 (g : Below wr.heap.size wr w2) => run_loadAt_mid (P := Try.prog) w2 bm (om + j.toNat * 11) 78 y.c.toList _ ((HM.out.kept (below_trans hd.out.2 g)).at_ j.toNat y hy) Try.underlying78 rfl node_len
        have nq := fun w => node_neq w x y
        obtain ⟨r, hr⟩ : ∃ r, (!decide (x = y)) = r := ⟨_, rfl⟩
        rw [hr] at nq
        have L1 := Lib.hid l1; have L2 := Lib.hid l2
        have HX := Lib.hid hx; have HYY := Lib.hid hy; have HI := Lib.hid hi; have HI' := Lib.hid hi'; have RR := Lib.hid hr; have NQ_ := Lib.hid nq
        clear l1 l2 hx hy hi hi' hr nq
        go_wp2_with fail
        refine region_quiet (fun w2 => Below wr.heap.size wr w2) (by kernel_rfl) (by kernel_rfl) (below_drewN (Below.refl _ _) 1) ?_
        repeat (first
          | (go_big_quiet_skip)
          | (with_reducible refine quiet_index 22 _ _ _ _ _ HI.out rfl rfl rfl ?_ ?_; (focus kernel_rfl); simp only [Act.put, List.setIfInBounds_toArray, List.set_cons_zero, List.set_cons_succ])
          | (with_reducible refine quiet_index 22 _ _ _ _ _ HI'.out rfl rfl rfl ?_ ?_; (focus kernel_rfl); simp only [Act.put, List.setIfInBounds_toArray, List.set_cons_zero, List.set_cons_succ])
          | (with_reducible refine quiet_load _ _ 78 _ L1.out rfl rfl ?_ ?_; (focus kernel_rfl); simp only [Act.put, List.setIfInBounds_toArray, List.set_cons_zero, List.set_cons_succ])
          | (with_reducible refine quiet_load _ _ 78 _ L2.out rfl rfl ?_ ?_; (focus kernel_rfl); simp only [Act.put, List.setIfInBounds_toArray, List.set_cons_zero, List.set_cons_succ])
          | (refine quiet_bin .neq 78 _ _ _ _ _ _ rfl rfl rfl NQ_.out (fun w => node_guard w _ _ _ _ _) ?_ ?_; (focus kernel_rfl); simp only [Act.put, List.setIfInBounds_toArray, List.set_cons_zero, List.set_cons_succ])
          | (go_big_quiet_step ((intro g2; (with_reducible rfl)))))
        refine wpQuiet_nil ?_
        intro w2 g2
        have G2 := Lib.hid (below_trans hd.out.2 g2); clear g2
        cases r
        · have hxy : x = y := by simpa using RR.out
          subst hxy
          go_wp2_with fail
          go_roundw
          case rel => exact ⟨j + 1, rfl, by omega, by omega, hd.out.1.succ hj0 (HX.out.trans HYY.out.symm), G2.out⟩
          case measure => simp [intOf]; omega
        · have hxy : ¬ x = y := by simpa using RR.out
          have hf : F = false := HNO.out (fun e => hxy (by
            have h := congrArg (fun l => l[j.toNat]?) e
            simp only [HX.out, HYY.out] at h
            injection h))
          subst hf
          clear hxy
          go_wp2_with fail
          go_ret
          exact ⟨rfl, G2.out⟩
      · have hall := hd.out.1.eq (by have := HL.out; omega) (by have := HL.out; omega)
        have hf := HY.out hall
        have D2 := Lib.hid hd.out.2
        clear hd hall
        subst hf
        go_wp2_with fail
        go_ret
        exact ⟨rfl, D2.out⟩
  · have e1' : ¬ (nl : Int) = (ml : Int) := by omega
    obtain ⟨zm, hzm⟩ : ∃ z : Int, (ml : Int) = z := ⟨_, rfl⟩
    rw [hzn, hzm] at e1'
    have e2' : (zn != zm) = true := by simpa using e1'
    have hf : F = false := HNO.out (fun e => e1 (by have h := congrArg List.length e; have := HL.out; omega))
    subst hf
    go_enter Try.func52, Try.ntmps52
    go_wp2_with fail
    go_ret
    exact ⟨rfl, Below.refl _ _⟩

set_option maxHeartbeats 1000000 in
set_option maxRecDepth 8000 in
theorem eqHosts_any (l m : List Hs) (al am : Option Addr) (cl cm bl ol bm om : Nat) (w : World) (hN : Sl Hs.c 23 6 w al cl bl ol l) (hM : Sl Hs.c 23 6 w am cm bm om m) :
    Calls Try.prog 53 #[.slice al l.length cl, .slice am m.length cm] w (RetBelow (.bool (decide (l = m))) w) := by
  obtain ⟨F, hF⟩ : ∃ f, decide (l = m) = f := ⟨_, rfl⟩
  have hyes : l = m → F = true := fun h => by rw [← hF]; simp [h]
  have hno : ¬ (l = m) → F = false := fun h => by rw [← hF]; simp [h]
  rw [hF]
  clear hF
  have hNi := hN.idx; have hMi := hM.idx
  have n63 := hN.small; have m63 := hM.small
  obtain ⟨nl, hnl⟩ : ∃ n, l.length = n := ⟨_, rfl⟩
  obtain ⟨ml, hml⟩ : ∃ n, m.length = n := ⟨_, rfl⟩
  rw [hnl] at hNi n63 ⊢
  rw [hml] at hMi m63 ⊢
  obtain ⟨zn, hzn⟩ : ∃ z : Int, (nl : Int) = z := ⟨_, rfl⟩
  have HY := Lib.hid hyes; have HNO := Lib.hid hno; have HL := Lib.hid (And.intro hnl hml)
  have HNI := Lib.hid hNi; have HMI := Lib.hid hMi; have HN := Lib.hid hN; have HM := Lib.hid hM
  clear hyes hno hNi hMi hN hM hnl hml
  by_cases e1 : nl = ml
  · subst e1
    go_enter Try.func53, Try.ntmps53
    go_wp2_with fail
    go_loopw [13] (fun i wr => ∃ (j : Int), i = .int .i64 j ∧ 0 ≤ j ∧ j ≤ zn ∧ Hid (Agree l m j ∧ Below w.heap.size w wr)) (fun i _ => (zn - intOf i).toNat)
    case atStart => exact ⟨0, rfl, by omega, by omega, Agree.zero _ _, Below.refl _ _⟩
    case round =>
      obtain ⟨j, rfl, hj0, hjz, hd⟩ := hrel
      by_cases hlt : j < zn
      · obtain ⟨x, hx⟩ : ∃ x, l[j.toNat]? = some x := ⟨_, List.getElem?_eq_getElem (by have := HL.out; omega)⟩
        obtain ⟨y, hy⟩ : ∃ x, m[j.toNat]? = some x := ⟨_, List.getElem?_eq_getElem (by have := HL.out; omega)⟩
        have hi := HNI.out j.toNat (by omega)
        have hi' := HMI.out j.toNat (by omega)
        rw [show ((j.toNat : Nat) : Int) = j by omega] at hi hi'
        have l1 := fun w2 (g : Below wr.heap.size wr w2) => run_loadAt_mid (P := Try.prog) w2 bl (ol + j.toNat * 6) 81 x.c.toList _ ((HN.out.kept (below_trans hd.out.2 g)).at_ j.toNat x hx) Try.underlying81 rfl host_len
        have l2 := fun w2 (g : Below wr.heap.size wr w2) => run_loadAt_mid (P := Try.prog) w2 bm (om + j.toNat * 6) 81 y.c.toList _ ((HM.out.kept (below_trans hd.out.2 g)).at_ j.toNat y hy) Try.underlying81 rfl host_len
        have nq := fun w => host_neq w x y
        obtain ⟨r, hr⟩ : ∃ r, (!decide (x = y)) = r := ⟨_, rfl⟩
        rw [hr] at nq
        have L1 := Lib.hid l1; have L2 := Lib.hid l2
        have HX := Lib.hid hx; have HYY := Lib.hid hy; have HI := Lib.hid hi; have HI' := Lib.hid hi'; have RR := Lib.hid hr; have NQ_ := Lib.hid nq
        clear l1 l2 hx hy hi hi' hr nq
        go_wp2_with fail
        refine region_quiet (fun w2 => Below wr.heap.size wr w2) (by kernel_rfl) (by kernel_rfl) (below_drewN (Below.refl _ _) 1) ?_
        repeat (first
          | (go_big_quiet_skip)
          | (with_reducible refine quiet_index 23 _ _ _ _ _ HI.out rfl rfl rfl ?_ ?_; (focus kernel_rfl); simp only [Act.put, List.setIfInBounds_toArray, List.set_cons_zero, List.set_cons_succ])
          | (with_reducible refine quiet_index 23 _ _ _ _ _ HI'.out rfl rfl rfl ?_ ?_; (focus kernel_rfl); simp only [Act.put, List.setIfInBounds_toArray, List.set_cons_zero, List.set_cons_succ])
          | (with_reducible refine quiet_load _ _ 81 _ L1.out rfl rfl ?_ ?_; (focus kernel_rfl); simp only [Act.put, List.setIfInBounds_toArray, List.set_cons_zero, List.set_cons_succ])
          | (with_reducible refine quiet_load _ _ 81 _ L2.out rfl rfl ?_ ?_; (focus kernel_rfl); simp only [Act.put, List.setIfInBounds_toArray, List.set_cons_zero, List.set_cons_succ])
          | (refine quiet_bin .neq 81 _ _ _ _ _ _ rfl rfl rfl NQ_.out (fun w => host_guard w _ _ _ _ _) ?_ ?_; (focus kernel_rfl); simp only [Act.put, List.setIfInBounds_toArray, List.set_cons_zero, List.set_cons_succ])
          | (go_big_quiet_step ((intro g2; (with_reducible rfl)))))
        refine wpQuiet_nil ?_
        intro w2 g2
        have G2 := Lib.hid (below_trans hd.out.2 g2); clear g2
        cases r
        · have hxy : x = y := by simpa using RR.out
          subst hxy
          go_wp2_with fail
          go_roundw
          case rel => exact ⟨j + 1, rfl, by omega, by omega, hd.out.1.succ hj0 (HX.out.trans HYY.out.symm), G2.out⟩
          case measure => simp [intOf]; omega
        · have hxy : ¬ x = y := by simpa using RR.out
          have hf : F = false := HNO.out (fun e => hxy (by
            have h := congrArg (fun l => l[j.toNat]?) e
            simp only [HX.out, HYY.out] at h
            injection h))
          subst hf
          clear hxy
          go_wp2_with fail
          go_ret
          exact ⟨rfl, G2.out⟩
      · have hall := hd.out.1.eq (by have := HL.out; omega) (by have := HL.out; omega)
        have hf := HY.out hall
        have D2 := Lib.hid hd.out.2
        clear hd hall
        subst hf
        go_wp2_with fail
        go_ret
        exact ⟨rfl, D2.out⟩
  · have e1' : ¬ (nl : Int) = (ml : Int) := by omega
    obtain ⟨zm, hzm⟩ : ∃ z : Int, (ml : Int) = z := ⟨_, rfl⟩
    rw [hzn, hzm] at e1'
    have e2' : (zn != zm) = true := by simpa using e1'
    have hf : F = false := HNO.out (fun e => e1 (by have h := congrArg List.length e; have := HL.out; omega))
    subst hf
    go_enter Try.func53, Try.ntmps53
    go_wp2_with fail
    go_ret
    exact ⟨rfl, Below.refl _ _⟩

theorem two_holds (w : World) (cs ds : Array Value) (t u : TypeId) : Holds ((w.alloc (.cells cs t)).alloc (.cells ds u)) w.heap.size cs ∧ Holds ((w.alloc (.cells cs t)).alloc (.cells ds u)) (w.heap.size + 1) ds := by
  refine ⟨(Holds.new w _ _).kept (by simp) ((Below.refl _ _).alloc (Nat.le_refl _) _), ?_⟩
  have := Holds.new (w.alloc (.cells cs t)) ds u
  rwa [World.size_alloc] at this

set_option maxHeartbeats 1000000 in
set_option maxRecDepth 8000 in
theorem sameConfig_any (a b : Cmd) (an ah bn bh : Option Addr) (cn ch nb no hb ho cn' ch' nb' no' hb' ho' : Nat) (w : World) (hN : Sl Nd.c 22 11 w an cn nb no a.nodes) (hH : Sl Hs.c 23 6 w ah ch hb ho a.hosts)
    (hN' : Sl Nd.c 22 11 w bn cn' nb' no' b.nodes) (hH' : Sl Hs.c 23 6 w bh ch' hb' ho' b.hosts) :
    Calls Try.prog 37 #[.agg #[.slice an a.nodes.length cn, .slice ah a.hosts.length ch, .int .i64 a.half, .int .i64 a.age], .agg #[.slice bn b.nodes.length cn', .slice bh b.hosts.length ch', .int .i64 b.half, .int .i64 b.age]] w (RetBelow (.bool (Cm.sameC a b)) w) := by
  have hcn := fun w2 (g : Below w.heap.size w w2) => eqNodes_any a.nodes b.nodes an bn cn cn' nb no nb' no' w2 (hN.kept g) (hN'.kept g)
  have hch := fun w2 (g : Below w.heap.size w w2) => eqHosts_any a.hosts b.hosts ah bh ch ch' hb ho hb' ho' w2 (hH.kept g) (hH'.kept g)
  obtain ⟨F, hF⟩ : ∃ f, Cm.sameC a b = f := ⟨_, rfl⟩
  obtain ⟨FN, hFN⟩ : ∃ f, decide (a.nodes = b.nodes) = f := ⟨_, rfl⟩
  obtain ⟨FH, hFH⟩ : ∃ f, decide (a.hosts = b.hosts) = f := ⟨_, rfl⟩
  have hf : F = (FN && FH && decide (a.half = b.half) && decide (a.age = b.age)) := by rw [← hF, ← hFN, ← hFH]; rfl
  rw [hF]
  rw [hFN] at hcn
  rw [hFH] at hch
  clear hF hFN hFH hN hH hN' hH'
  obtain ⟨kind, nodes, hosts, half, age, g, n⟩ := a
  obtain ⟨kind', nodes', hosts', half', age', g', n'⟩ := b
  simp only at hcn hch hf ⊢
  obtain ⟨nl, hnl⟩ : ∃ n, nodes.length = n := ⟨_, rfl⟩
  obtain ⟨hl, hhl⟩ : ∃ n, hosts.length = n := ⟨_, rfl⟩
  obtain ⟨nl', hnl'⟩ : ∃ n, nodes'.length = n := ⟨_, rfl⟩
  obtain ⟨hl', hhl'⟩ : ∃ n, hosts'.length = n := ⟨_, rfl⟩
  rw [hnl, hnl'] at hcn
  rw [hhl, hhl'] at hch
  rw [hnl, hhl, hnl', hhl']
  have gW := two_below w (.cells #[.slice an nl cn, .slice ah hl ch, .int .i64 half, .int .i64 age] 25) (.cells #[.slice bn nl' cn', .slice bh hl' ch', .int .i64 half', .int .i64 age'] 25)
  have hz : w.heap.size < ((w.alloc (.cells #[.slice an nl cn, .slice ah hl ch, .int .i64 half, .int .i64 age] 25)).alloc (.cells #[.slice bn nl' cn', .slice bh hl' ch', .int .i64 half', .int .i64 age'] 25)).heap.size ∧ w.heap.size + 1 < ((w.alloc (.cells #[.slice an nl cn, .slice ah hl ch, .int .i64 half, .int .i64 age] 25)).alloc (.cells #[.slice bn nl' cn', .slice bh hl' ch', .int .i64 half', .int .i64 age'] 25)).heap.size := by rw [World.size_alloc, World.size_alloc]; omega
  have GW := Lib.hid gW; have HC := Lib.hid hcn; have HCH := Lib.hid hch; have HF := Lib.hid hf; have HO := Lib.hid (two_holds w #[.slice an nl cn, .slice ah hl ch, .int .i64 half, .int .i64 age] #[.slice bn nl' cn', .slice bh hl' ch', .int .i64 half', .int .i64 age'] 25 25); have HZ := Lib.hid hz
  clear gW hcn hch hf hnl hhl hnl' hhl' hz
  go_enter Try.func37, Try.ntmps37
  go_wp2_with fail
  refine (HC.out _ GW.out).mono ?_
  rintro er w2 ⟨rfl, b2⟩
  have g2 := below_trans GW.out b2
  have o1 := HO.out.1.kept HZ.out.1 b2
  have o2 := HO.out.2.kept HZ.out.2 b2
  have z2 : w.heap.size < w2.heap.size ∧ w.heap.size + 1 < w2.heap.size := ⟨Nat.lt_of_lt_of_le HZ.out.1 b2.size, Nat.lt_of_lt_of_le HZ.out.2 b2.size⟩
  have G2 := Lib.hid g2; have O1 := Lib.hid o1; have O2 := Lib.hid o2; have Z2 := Lib.hid z2
  clear b2 g2 o1 o2 z2
  cases FN
  · have hf := HF.out.trans (by simp : _ = false)
    subst hf
    go_wp2_with fail
    go_ret
    exact ⟨rfl, G2.out⟩
  have c1 : w2.cell? ⟨w.heap.size, 1, none⟩ = some (.slice ah hl ch) := O1.out 1 _ rfl
  have c1' : w2.cell? ⟨w.heap.size + 1, 1, none⟩ = some (.slice bh hl' ch') := O2.out 1 _ rfl
  go_wp2_with fail
  refine (HCH.out _ G2.out).mono ?_
  rintro er w3 ⟨rfl, b3⟩
  have c2 : w3.cell? ⟨w.heap.size, 2, none⟩ = some (.int .i64 half) := (O1.out.kept Z2.out.1 b3) 2 _ rfl
  have c3 : w3.cell? ⟨w.heap.size, 3, none⟩ = some (.int .i64 age) := (O1.out.kept Z2.out.1 b3) 3 _ rfl
  have c2' : w3.cell? ⟨w.heap.size + 1, 2, none⟩ = some (.int .i64 half') := (O2.out.kept Z2.out.2 b3) 2 _ rfl
  have c3' : w3.cell? ⟨w.heap.size + 1, 3, none⟩ = some (.int .i64 age') := (O2.out.kept Z2.out.2 b3) 3 _ rfl
  have G3 := Lib.hid (below_trans G2.out b3)
  clear b3 c1 c1'
  cases FH
  · have hf := HF.out.trans (by simp : _ = false)
    subst hf
    go_wp2_with fail
    go_ret
    exact ⟨rfl, G3.out⟩
  by_cases e3 : half = half'
  · subst e3
    by_cases e4 : age = age'
    · subst e4
      have hf := HF.out.trans (by simp : _ = true)
      subst hf
      go_wp2_with fail
      go_ret
      exact ⟨rfl, G3.out⟩
    · have hf := HF.out.trans (by simp [e4] : _ = false)
      subst hf
      have e4' : (age == age') = false := by simpa using e4
      go_wp2_with fail
      go_ret
      exact ⟨rfl, G3.out⟩
  · have hf := HF.out.trans (by simp [e3] : _ = false)
    subst hf
    have e3' : (half == half') = false := by simpa using e3
    go_wp2_with fail
    go_ret
    exact ⟨rfl, G3.out⟩

set_option maxHeartbeats 1000000 in
set_option maxRecDepth 8000 in
theorem cSame_any (a b : Cmd) (an ah bn bh : Option Addr) (cn ch nb no hb ho cn' ch' nb' no' hb' ho' : Nat) (w : World) (hN : Sl Nd.c 22 11 w an cn nb no a.nodes) (hH : Sl Hs.c 23 6 w ah ch hb ho a.hosts)
    (hN' : Sl Nd.c 22 11 w bn cn' nb' no' b.nodes) (hH' : Sl Hs.c 23 6 w bh ch' hb' ho' b.hosts) :
    Calls Try.prog 17 #[.agg (a.c (.slice an a.nodes.length cn) (.slice ah a.hosts.length ch)), .agg (b.c (.slice bn b.nodes.length cn') (.slice bh b.hosts.length ch'))] w (RetBelow (.bool (decide (a = b))) w) := by
  have hc := fun w2 (g : Below w.heap.size w w2) => sameConfig_any a b an ah bn bh cn ch nb no hb ho cn' ch' nb' no' hb' ho' w2 (hN.kept g) (hH.kept g) (hN'.kept g) (hH'.kept g)
  have hge := fun w => gang_eql w a.gang b.gang
  have hgg := fun w o x y => gang_guard w o x y a.gang.c b.gang.c
  obtain ⟨F, hF⟩ : ∃ f, decide (a = b) = f := ⟨_, rfl⟩
  obtain ⟨FC, hFC⟩ : ∃ f, Cm.sameC a b = f := ⟨_, rfl⟩
  obtain ⟨G0, hG0⟩ : ∃ f, decide (a.gang = b.gang) = f := ⟨_, rfl⟩
  have hf : F = (decide (a.kind = b.kind) && G0 && decide (a.n = b.n) && FC) := by
    rw [← hF, ← hFC, ← hG0, Bool.eq_iff_iff]
    simp only [Cm.sameC, Bool.and_eq_true, decide_eq_true_eq, Cmd.eq_iff]
    constructor
    · rintro ⟨h1, h2, h3, h4, h5, h6, h7⟩; exact ⟨⟨⟨h1, h6⟩, h7⟩, ⟨⟨⟨h2, h3⟩, h4⟩, h5⟩⟩
    · rintro ⟨⟨⟨h1, h6⟩, h7⟩, ⟨⟨⟨h2, h3⟩, h4⟩, h5⟩⟩; exact ⟨h1, h2, h3, h4, h5, h6, h7⟩
  rw [hF]
  rw [hFC] at hc
  rw [hG0] at hge
  clear hF hFC hG0 hN hH hN' hH'
  obtain ⟨kind, nodes, hosts, half, age, ⟨id, ten, pods, ⟨x, y, z⟩, run, lev, pre⟩, n⟩ := a
  obtain ⟨kind', nodes', hosts', half', age', ⟨id', ten', pods', ⟨x', y', z'⟩, run', lev', pre'⟩, n'⟩ := b
  simp only [Cmd.c, Gg.c] at *
  obtain ⟨nl, hnl⟩ : ∃ n, nodes.length = n := ⟨_, rfl⟩
  obtain ⟨hl, hhl⟩ : ∃ n, hosts.length = n := ⟨_, rfl⟩
  obtain ⟨nl', hnl'⟩ : ∃ n, nodes'.length = n := ⟨_, rfl⟩
  obtain ⟨hl', hhl'⟩ : ∃ n, hosts'.length = n := ⟨_, rfl⟩
  rw [hnl, hhl, hnl', hhl'] at hc ⊢
  have gW := two_below w (.cells #[.int .i64 kind, .slice an nl cn, .slice ah hl ch, .int .i64 half, .int .i64 age, .int .i64 id, .int .i64 ten, .int .i64 pods, .int .i64 x, .int .i64 y, .int .i64 z, .int .i64 run, .int .i64 lev, .int .i64 pre, .int .i64 n] 31) (.cells #[.int .i64 kind', .slice bn nl' cn', .slice bh hl' ch', .int .i64 half', .int .i64 age', .int .i64 id', .int .i64 ten', .int .i64 pods', .int .i64 x', .int .i64 y', .int .i64 z', .int .i64 run', .int .i64 lev', .int .i64 pre', .int .i64 n'] 31)
  have hz : w.heap.size < ((w.alloc (.cells #[.int .i64 kind, .slice an nl cn, .slice ah hl ch, .int .i64 half, .int .i64 age, .int .i64 id, .int .i64 ten, .int .i64 pods, .int .i64 x, .int .i64 y, .int .i64 z, .int .i64 run, .int .i64 lev, .int .i64 pre, .int .i64 n] 31)).alloc (.cells #[.int .i64 kind', .slice bn nl' cn', .slice bh hl' ch', .int .i64 half', .int .i64 age', .int .i64 id', .int .i64 ten', .int .i64 pods', .int .i64 x', .int .i64 y', .int .i64 z', .int .i64 run', .int .i64 lev', .int .i64 pre', .int .i64 n'] 31)).heap.size ∧ w.heap.size + 1 < ((w.alloc (.cells #[.int .i64 kind, .slice an nl cn, .slice ah hl ch, .int .i64 half, .int .i64 age, .int .i64 id, .int .i64 ten, .int .i64 pods, .int .i64 x, .int .i64 y, .int .i64 z, .int .i64 run, .int .i64 lev, .int .i64 pre, .int .i64 n] 31)).alloc (.cells #[.int .i64 kind', .slice bn nl' cn', .slice bh hl' ch', .int .i64 half', .int .i64 age', .int .i64 id', .int .i64 ten', .int .i64 pods', .int .i64 x', .int .i64 y', .int .i64 z', .int .i64 run', .int .i64 lev', .int .i64 pre', .int .i64 n'] 31)).heap.size := by rw [World.size_alloc, World.size_alloc]; omega
  have GW := Lib.hid gW; have HC := Lib.hid hc; have HF := Lib.hid hf; have HO := Lib.hid (two_holds w #[.int .i64 kind, .slice an nl cn, .slice ah hl ch, .int .i64 half, .int .i64 age, .int .i64 id, .int .i64 ten, .int .i64 pods, .int .i64 x, .int .i64 y, .int .i64 z, .int .i64 run, .int .i64 lev, .int .i64 pre, .int .i64 n] #[.int .i64 kind', .slice bn nl' cn', .slice bh hl' ch', .int .i64 half', .int .i64 age', .int .i64 id', .int .i64 ten', .int .i64 pods', .int .i64 x', .int .i64 y', .int .i64 z', .int .i64 run', .int .i64 lev', .int .i64 pre', .int .i64 n'] 31 31); have HZ := Lib.hid hz
  clear gW hc hf hnl hhl hnl' hhl' hz
  by_cases e1 : kind = kind'
  case neg =>
    have hf := HF.out.trans (by simp [e1] : _ = false)
    subst hf
    have e1' : (kind == kind') = false := by simpa using e1
    go_enter Try.func17, Try.ntmps17
    go_wp2_with fail
    go_ret
    exact ⟨rfl, GW.out⟩
  subst e1
  go_enter Try.func17, Try.ntmps17
  go_wp2_with fail
  refine (HC.out _ GW.out).mono ?_
  rintro er w2 ⟨rfl, b2⟩
  have o1 := HO.out.1.kept HZ.out.1 b2
  have o2 := HO.out.2.kept HZ.out.2 b2
  have G2 := Lib.hid (below_trans GW.out b2); have O1 := Lib.hid o1; have O2 := Lib.hid o2
  clear b2 o1 o2
  cases FC
  · have hf := HF.out.trans (by simp : _ = false)
    subst hf
    go_wp2_with fail
    go_ret
    exact ⟨rfl, G2.out⟩
  have c5 : w2.cell? ⟨w.heap.size, 5, none⟩ = some (.int .i64 id) := O1.out 5 _ rfl
  have c6 : w2.cell? ⟨w.heap.size, 6, none⟩ = some (.int .i64 ten) := O1.out 6 _ rfl
  have c7 : w2.cell? ⟨w.heap.size, 7, none⟩ = some (.int .i64 pods) := O1.out 7 _ rfl
  have c8 : w2.cell? ⟨w.heap.size, 8, none⟩ = some (.int .i64 x) := O1.out 8 _ rfl
  have c9 : w2.cell? ⟨w.heap.size, 9, none⟩ = some (.int .i64 y) := O1.out 9 _ rfl
  have c10 : w2.cell? ⟨w.heap.size, 10, none⟩ = some (.int .i64 z) := O1.out 10 _ rfl
  have c11 : w2.cell? ⟨w.heap.size, 11, none⟩ = some (.int .i64 run) := O1.out 11 _ rfl
  have c12 : w2.cell? ⟨w.heap.size, 12, none⟩ = some (.int .i64 lev) := O1.out 12 _ rfl
  have c13 : w2.cell? ⟨w.heap.size, 13, none⟩ = some (.int .i64 pre) := O1.out 13 _ rfl
  have c14 : w2.cell? ⟨w.heap.size, 14, none⟩ = some (.int .i64 n) := O1.out 14 _ rfl
  have d5 : w2.cell? ⟨w.heap.size + 1, 5, none⟩ = some (.int .i64 id') := O2.out 5 _ rfl
  have d6 : w2.cell? ⟨w.heap.size + 1, 6, none⟩ = some (.int .i64 ten') := O2.out 6 _ rfl
  have d7 : w2.cell? ⟨w.heap.size + 1, 7, none⟩ = some (.int .i64 pods') := O2.out 7 _ rfl
  have d8 : w2.cell? ⟨w.heap.size + 1, 8, none⟩ = some (.int .i64 x') := O2.out 8 _ rfl
  have d9 : w2.cell? ⟨w.heap.size + 1, 9, none⟩ = some (.int .i64 y') := O2.out 9 _ rfl
  have d10 : w2.cell? ⟨w.heap.size + 1, 10, none⟩ = some (.int .i64 z') := O2.out 10 _ rfl
  have d11 : w2.cell? ⟨w.heap.size + 1, 11, none⟩ = some (.int .i64 run') := O2.out 11 _ rfl
  have d12 : w2.cell? ⟨w.heap.size + 1, 12, none⟩ = some (.int .i64 lev') := O2.out 12 _ rfl
  have d13 : w2.cell? ⟨w.heap.size + 1, 13, none⟩ = some (.int .i64 pre') := O2.out 13 _ rfl
  have d14 : w2.cell? ⟨w.heap.size + 1, 14, none⟩ = some (.int .i64 n') := O2.out 14 _ rfl
  cases G0
  · have hf := HF.out.trans (by simp : _ = false)
    subst hf
    go_wp2_with fail
    go_ret
    exact ⟨rfl, G2.out⟩
  by_cases e2 : n = n'
  · subst e2
    have hf := HF.out.trans (by simp : _ = true)
    subst hf
    go_wp2_with fail
    go_ret
    exact ⟨rfl, G2.out⟩
  · have hf := HF.out.trans (by simp [e2] : _ = false)
    subst hf
    have e2' : (n == n') = false := by simpa using e2
    go_wp2_with fail
    go_ret
    exact ⟨rfl, G2.out⟩

theorem cSameAt {a b : Cmd} {va ha vb hb : Value} {w : World} (h1 : CmAt a va ha w) (h2 : CmAt b vb hb w) : Calls Try.prog 17 #[.agg (a.c va ha), .agg (b.c vb hb)] w (RetBelow (.bool (decide (a = b))) w) := by
  obtain ⟨an, cn, nb, no, ah, ch, hb, ho, rfl, rfl, s1, s2⟩ := h1
  obtain ⟨bn, cn', nb', no', bh, ch', hb', ho', rfl, rfl, s3, s4⟩ := h2
  exact cSame_any a b an ah bn bh cn ch nb no hb ho cn' ch' nb' no' hb' ho' w s1 s2 s3 s4

end Go.Proofs.Ytpnfhcpapjomnaa

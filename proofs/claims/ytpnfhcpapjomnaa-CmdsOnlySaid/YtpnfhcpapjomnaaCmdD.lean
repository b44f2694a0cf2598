/- The plain answer's Check. -/
import Derived.Test.YtpnfhcpapjomnaaCmdB
namespace Go.Proofs.Ytpnfhcpapjomnaa
open Go.RowKit
set_option linter.unusedVariables false

/-- Whether a command is fine, what Check says. -/
theorem check_no {c : Cmd} (h : Cm.fine c = false) : Cm.check c = 1 := by unfold Cm.check; rw [if_pos h]
theorem check_yes {c : Cmd} (h : Cm.fine c = true) : Cm.check c = if 12 < c.nodes.length ∨ 24 < c.hosts.length then 8 else 0 := by unfold Cm.check; rw [if_neg (by rw [h]; simp)]

set_option maxHeartbeats 2000000 in
set_option maxRecDepth 8000 in
theorem rCheck_any (c : Cmd) (an ah : Option Addr) (cn ch nb no hb ho : Nat) (w : World) (hN : Sl Nd.c 22 11 w an cn nb no c.nodes) (hH : Sl Hs.c 23 6 w ah ch hb ho c.hosts) :
    Calls Try.prog 13 #[.agg (c.c (.slice an c.nodes.length cn) (.slice ah c.hosts.length ch))] w (RetBelow (.int .i64 (Cm.check c)) w) := by
  have hconf := fun w hN hH => rConf_any c an ah cn ch nb no hb ho w hN hH
  have hemp := fun w => rEmpty_any an ah c.nodes.length cn c.hosts.length ch c.half c.age w
  have hgang := fun w => rOkGang_any c.gang w
  have hge : ∀ w, (binOp .eql 29 (.agg c.gang.c) (.agg Cm.zG.c)).run Try.prog w = .ok (.bool (Cm.bare c.gang)) w := fun w => gang_eql w c.gang Cm.zG
  have hgg := fun w o x y => gang_guard w o x y c.gang.c Cm.zG.c
  have hE : (decide (c.nodes.length = 0) && decide (c.hosts.length = 0) && decide (c.half = 0) && decide (c.age = 0)) = Cm.empty c := rfl
  rw [hE] at hemp
  have n63 := hN.small
  have h63 := hH.small
  have hfine : Cm.fine c = if c.kind = 1 then Cm.bare c.gang && decide (c.n = 0) && Cm.okC c
    else if c.kind = 2 then Cm.empty c && decide (c.n = 0) && Cm.okG c.gang
    else if c.kind = 3 ∨ c.kind = 4 ∨ c.kind = 5 then Cm.empty c && Cm.bare c.gang && Cm.ok c.n
    else if c.kind = 6 then Cm.empty c && Cm.bare c.gang && decide (c.n = 0) else false := rfl
  have hemp0 : Cm.empty c = true → c.nodes.length = 0 ∧ c.hosts.length = 0 := fun h => by
    rw [Cm.empty_iff] at h; rw [h.1, h.2.1]; exact ⟨rfl, rfl⟩
  obtain ⟨kind, nodes, hosts, half, age, ⟨id, ten, pods, ⟨x, y, z⟩, run, lev, pre⟩, n⟩ := c
  simp only [Cmd.c, Gg.c, Cm.zG] at *
  obtain ⟨nl, hnl⟩ : ∃ n, nodes.length = n := ⟨_, rfl⟩
  obtain ⟨hl, hhl⟩ : ∃ n, hosts.length = n := ⟨_, rfl⟩
  have hyes : ∀ {f}, Cm.fine ⟨kind, nodes, hosts, half, age, ⟨id, ten, pods, ⟨x, y, z⟩, run, lev, pre⟩, n⟩ = f → f = true → Cm.check ⟨kind, nodes, hosts, half, age, ⟨id, ten, pods, ⟨x, y, z⟩, run, lev, pre⟩, n⟩ = if 12 < nl ∨ 24 < hl then 8 else 0 := fun h e => by
    have := check_yes (h.trans e); rwa [hnl, hhl] at this
  have hno : ∀ {f}, Cm.fine ⟨kind, nodes, hosts, half, age, ⟨id, ten, pods, ⟨x, y, z⟩, run, lev, pre⟩, n⟩ = f → f = false → Cm.check ⟨kind, nodes, hosts, half, age, ⟨id, ten, pods, ⟨x, y, z⟩, run, lev, pre⟩, n⟩ = 1 := fun h e => check_no (h.trans e)
  rw [hnl, hhl] at hemp hconf hemp0
  rw [hnl] at n63 ⊢
  rw [hhl] at h63 ⊢
  obtain ⟨zn, hzn⟩ : ∃ z : Int, (nl : Int) = z := ⟨_, rfl⟩
  obtain ⟨zh, hzh⟩ : ∃ z : Int, (hl : Int) = z := ⟨_, rfl⟩
  obtain ⟨C, hC⟩ : ∃ C, Cm.check ⟨kind, nodes, hosts, half, age, ⟨id, ten, pods, ⟨x, y, z⟩, run, lev, pre⟩, n⟩ = C := ⟨_, rfl⟩
  obtain ⟨F, hF⟩ : ∃ F, Cm.fine ⟨kind, nodes, hosts, half, age, ⟨id, ten, pods, ⟨x, y, z⟩, run, lev, pre⟩, n⟩ = F := ⟨_, rfl⟩
  obtain ⟨E, hEE⟩ : ∃ E, Cm.empty ⟨kind, nodes, hosts, half, age, ⟨id, ten, pods, ⟨x, y, z⟩, run, lev, pre⟩, n⟩ = E := ⟨_, rfl⟩
  obtain ⟨G0, hG0⟩ : ∃ G, Cm.bare ⟨id, ten, pods, ⟨x, y, z⟩, run, lev, pre⟩ = G := ⟨_, rfl⟩
  obtain ⟨OC, hOC⟩ : ∃ G, Cm.okC ⟨kind, nodes, hosts, half, age, ⟨id, ten, pods, ⟨x, y, z⟩, run, lev, pre⟩, n⟩ = G := ⟨_, rfl⟩
  obtain ⟨OG, hOG⟩ : ∃ G, Cm.okG ⟨id, ten, pods, ⟨x, y, z⟩, run, lev, pre⟩ = G := ⟨_, rfl⟩
  rw [hF, hC] at hyes hno
  rw [hF, hEE, hG0, hOC, hOG] at hfine
  rw [hEE] at hemp hemp0
  rw [hG0] at hge
  rw [hOC] at hconf
  rw [hOG] at hgang
  rw [hC]
  have HY := Lib.hid (fun h => hyes rfl h); have HNO := Lib.hid (fun h => hno rfl h)
  have HF := Lib.hid hfine; have HE0 := Lib.hid hemp0
  have HC := Lib.hid hconf; have HEM := Lib.hid hemp; have HG := Lib.hid hgang
  have HSN := Lib.hid hN; have HSH := Lib.hid hH
  clear hyes hno hfine hemp0 hconf hemp hgang hnl hhl hC hF hEE hG0 hOC hOG hE hN hH
  have hr0 : ∀ k : Int, (((w.alloc (.cells #[.int .i64 k, .slice an nl cn, .slice ah hl ch, .int .i64 half, .int .i64 age, .int .i64 id, .int .i64 ten, .int .i64 pods, .int .i64 x, .int .i64 y, .int .i64 z, .int .i64 run, .int .i64 lev, .int .i64 pre, .int .i64 n] 31)).alloc (.cells #[.int .i64 0, .int .i64 0, .int .i64 0, .int .i64 0, .int .i64 0, .int .i64 0, .int .i64 0, .int .i64 0, .int .i64 0] 29))).rangeAt w.heap.size 0 (#[.int .i64 k, .slice an nl cn, .slice ah hl ch, .int .i64 half, .int .i64 age, .int .i64 id, .int .i64 ten, .int .i64 pods, .int .i64 x, .int .i64 y, .int .i64 z, .int .i64 run, .int .i64 lev, .int .i64 pre, .int .i64 n]).toList ∧ (((w.alloc (.cells #[.int .i64 k, .slice an nl cn, .slice ah hl ch, .int .i64 half, .int .i64 age, .int .i64 id, .int .i64 ten, .int .i64 pods, .int .i64 x, .int .i64 y, .int .i64 z, .int .i64 run, .int .i64 lev, .int .i64 pre, .int .i64 n] 31)).alloc (.cells #[.int .i64 0, .int .i64 0, .int .i64 0, .int .i64 0, .int .i64 0, .int .i64 0, .int .i64 0, .int .i64 0, .int .i64 0] 29))).rangeAt (w.heap.size + 1) 0 (#[.int .i64 0, .int .i64 0, .int .i64 0, .int .i64 0, .int .i64 0, .int .i64 0, .int .i64 0, .int .i64 0, .int .i64 0] : Array Value).toList := fun k => by
    refine ⟨range_kept (range_new w _ _ 0 _ (fun j v hj => by simpa using hj)) (by simp) ((Below.refl _ _).alloc (Nat.le_refl _) _), ?_⟩
    have h := range_new (w.alloc (.cells #[.int .i64 k, .slice an nl cn, .slice ah hl ch, .int .i64 half, .int .i64 age, .int .i64 id, .int .i64 ten, .int .i64 pods, .int .i64 x, .int .i64 y, .int .i64 z, .int .i64 run, .int .i64 lev, .int .i64 pre, .int .i64 n] 31)) #[.int .i64 0, .int .i64 0, .int .i64 0, .int .i64 0, .int .i64 0, .int .i64 0, .int .i64 0, .int .i64 0, .int .i64 0] 29 0 _ (fun j v hj => by simpa using hj)
    rw [World.size_alloc] at h
    exact h
  have HR0 := Lib.hid hr0; clear hr0
  by_cases k1 : kind = 1
  · subst k1
    have HF' := Lib.hid (HF.out.trans (if_pos rfl))
    have gW := two_below w (.cells #[.int .i64 1, .slice an nl cn, .slice ah hl ch, .int .i64 half, .int .i64 age, .int .i64 id, .int .i64 ten, .int .i64 pods, .int .i64 x, .int .i64 y, .int .i64 z, .int .i64 run, .int .i64 lev, .int .i64 pre, .int .i64 n] 31) (.cells #[.int .i64 0, .int .i64 0, .int .i64 0, .int .i64 0, .int .i64 0, .int .i64 0, .int .i64 0, .int .i64 0, .int .i64 0] 29)
    have hR := HR0.out 1
    have hz1 : w.heap.size < ((w.alloc (.cells #[.int .i64 1, .slice an nl cn, .slice ah hl ch, .int .i64 half, .int .i64 age, .int .i64 id, .int .i64 ten, .int .i64 pods, .int .i64 x, .int .i64 y, .int .i64 z, .int .i64 run, .int .i64 lev, .int .i64 pre, .int .i64 n] 31)).alloc (.cells #[.int .i64 0, .int .i64 0, .int .i64 0, .int .i64 0, .int .i64 0, .int .i64 0, .int .i64 0, .int .i64 0, .int .i64 0] 29)).heap.size ∧ w.heap.size + 1 < ((w.alloc (.cells #[.int .i64 1, .slice an nl cn, .slice ah hl ch, .int .i64 half, .int .i64 age, .int .i64 id, .int .i64 ten, .int .i64 pods, .int .i64 x, .int .i64 y, .int .i64 z, .int .i64 run, .int .i64 lev, .int .i64 pre, .int .i64 n] 31)).alloc (.cells #[.int .i64 0, .int .i64 0, .int .i64 0, .int .i64 0, .int .i64 0, .int .i64 0, .int .i64 0, .int .i64 0, .int .i64 0] 29)).heap.size := by rw [World.size_alloc, World.size_alloc]; omega
    have GW := Lib.hid gW; have HR := Lib.hid hR; have HZ := Lib.hid hz1
    clear gW hR hz1
    cases G0
    · have hc := HNO.out (by rw [HF'.out]; simp)
      subst hc
      go_enter Try.func13, Try.ntmps13
      go_wp2_with fail
      go_ret
      exact ⟨rfl, GW.out⟩
    by_cases hn : n = 0
    · subst hn
      go_enter Try.func13, Try.ntmps13
      go_wp2_with fail
      refine (HC.out _ (HSN.out.kept GW.out) (HSH.out.kept GW.out)).mono ?_
      rintro er w1 ⟨rfl, bw1⟩
      have Gw1 := Lib.hid (below_trans GW.out bw1)
      have Rw1 := Lib.hid (And.intro (range_kept HR.out.1 HZ.out.1 bw1) (range_kept HR.out.2 HZ.out.2 bw1))
      have Zw1 := Lib.hid (And.intro (Nat.lt_of_lt_of_le HZ.out.1 bw1.size) (Nat.lt_of_lt_of_le HZ.out.2 bw1.size))
      clear bw1
      have c1 : w1.cell? ⟨w.heap.size, 1, none⟩ = some (.slice an nl cn) := Rw1.out.1 1 _ rfl
      have c2 : w1.cell? ⟨w.heap.size, 2, none⟩ = some (.slice ah hl ch) := Rw1.out.1 2 _ rfl
      cases OC
      · have hc := HNO.out (by rw [HF'.out]; simp)
        subst hc
        go_wp2_with fail
        go_ret
        exact ⟨rfl, Gw1.out⟩
      by_cases h12 : 12 < zn
      · have hc := HY.out (by rw [HF'.out]; simp); rw [if_pos (by omega)] at hc; subst hc
        go_wp2_with fail
        go_ret
        exact ⟨rfl, Gw1.out⟩
      by_cases h24 : 24 < zh
      · have hc := HY.out (by rw [HF'.out]; simp); rw [if_pos (by omega)] at hc; subst hc
        go_wp2_with fail
        go_ret
        exact ⟨rfl, Gw1.out⟩
      have hc := HY.out (by rw [HF'.out]; simp)
      rw [if_neg (by omega)] at hc
      subst hc
      go_wp2_with fail
      go_ret
      exact ⟨rfl, Gw1.out⟩
    · have hc := HNO.out (by rw [HF'.out]; simp [hn])
      subst hc
      go_enter Try.func13, Try.ntmps13
      go_wp2_with fail
      go_ret
      exact ⟨rfl, GW.out⟩
  by_cases k2 : kind = 2
  · subst k2
    have HF' := Lib.hid (HF.out.trans (by rw [if_neg (by decide), if_pos rfl]))
    have gW := two_below w (.cells #[.int .i64 2, .slice an nl cn, .slice ah hl ch, .int .i64 half, .int .i64 age, .int .i64 id, .int .i64 ten, .int .i64 pods, .int .i64 x, .int .i64 y, .int .i64 z, .int .i64 run, .int .i64 lev, .int .i64 pre, .int .i64 n] 31) (.cells #[.int .i64 0, .int .i64 0, .int .i64 0, .int .i64 0, .int .i64 0, .int .i64 0, .int .i64 0, .int .i64 0, .int .i64 0] 29)
    have hR := HR0.out 2
    have hz1 : w.heap.size < ((w.alloc (.cells #[.int .i64 2, .slice an nl cn, .slice ah hl ch, .int .i64 half, .int .i64 age, .int .i64 id, .int .i64 ten, .int .i64 pods, .int .i64 x, .int .i64 y, .int .i64 z, .int .i64 run, .int .i64 lev, .int .i64 pre, .int .i64 n] 31)).alloc (.cells #[.int .i64 0, .int .i64 0, .int .i64 0, .int .i64 0, .int .i64 0, .int .i64 0, .int .i64 0, .int .i64 0, .int .i64 0] 29)).heap.size ∧ w.heap.size + 1 < ((w.alloc (.cells #[.int .i64 2, .slice an nl cn, .slice ah hl ch, .int .i64 half, .int .i64 age, .int .i64 id, .int .i64 ten, .int .i64 pods, .int .i64 x, .int .i64 y, .int .i64 z, .int .i64 run, .int .i64 lev, .int .i64 pre, .int .i64 n] 31)).alloc (.cells #[.int .i64 0, .int .i64 0, .int .i64 0, .int .i64 0, .int .i64 0, .int .i64 0, .int .i64 0, .int .i64 0, .int .i64 0] 29)).heap.size := by rw [World.size_alloc, World.size_alloc]; omega
    have GW := Lib.hid gW; have HR := Lib.hid hR; have HZ := Lib.hid hz1
    clear gW hR hz1
    go_enter Try.func13, Try.ntmps13
    go_wp2_with fail
    refine (HEM.out _).mono ?_
    rintro er w1 ⟨rfl, bw1⟩
    have Gw1 := Lib.hid (below_trans GW.out bw1)
    have Rw1 := Lib.hid (And.intro (range_kept HR.out.1 HZ.out.1 bw1) (range_kept HR.out.2 HZ.out.2 bw1))
    have Zw1 := Lib.hid (And.intro (Nat.lt_of_lt_of_le HZ.out.1 bw1.size) (Nat.lt_of_lt_of_le HZ.out.2 bw1.size))
    clear bw1
    cases E
    · have hc := HNO.out (by rw [HF'.out]; simp)
      subst hc
      go_wp2_with fail
      go_ret
      exact ⟨rfl, Gw1.out⟩
    obtain ⟨hnl0, hhl0⟩ := HE0.out rfl
    obtain rfl : zn = 0 := by omega
    obtain rfl : zh = 0 := by omega
    have hz0 : ¬ (12 < nl ∨ 24 < hl) := by omega
    have HZ0 := Lib.hid hz0
    clear hz0 hnl0 hhl0
    have c1 : w1.cell? ⟨w.heap.size, 1, none⟩ = some (.slice an nl cn) := Rw1.out.1 1 _ rfl
    have c2 : w1.cell? ⟨w.heap.size, 2, none⟩ = some (.slice ah hl ch) := Rw1.out.1 2 _ rfl
    have c5 : w1.cell? ⟨w.heap.size, 5, none⟩ = some (.int .i64 id) := Rw1.out.1 5 _ rfl
    have c6 : w1.cell? ⟨w.heap.size, 6, none⟩ = some (.int .i64 ten) := Rw1.out.1 6 _ rfl
    have c7 : w1.cell? ⟨w.heap.size, 7, none⟩ = some (.int .i64 pods) := Rw1.out.1 7 _ rfl
    have c8 : w1.cell? ⟨w.heap.size, 8, none⟩ = some (.int .i64 x) := Rw1.out.1 8 _ rfl
    have c9 : w1.cell? ⟨w.heap.size, 9, none⟩ = some (.int .i64 y) := Rw1.out.1 9 _ rfl
    have c10 : w1.cell? ⟨w.heap.size, 10, none⟩ = some (.int .i64 z) := Rw1.out.1 10 _ rfl
    have c11 : w1.cell? ⟨w.heap.size, 11, none⟩ = some (.int .i64 run) := Rw1.out.1 11 _ rfl
    have c12 : w1.cell? ⟨w.heap.size, 12, none⟩ = some (.int .i64 lev) := Rw1.out.1 12 _ rfl
    have c13 : w1.cell? ⟨w.heap.size, 13, none⟩ = some (.int .i64 pre) := Rw1.out.1 13 _ rfl
    have c14 : w1.cell? ⟨w.heap.size, 14, none⟩ = some (.int .i64 n) := Rw1.out.1 14 _ rfl
    by_cases hn : n = 0
    · subst hn
      go_wp2_with fail
      refine (HG.out _).mono ?_
      rintro er w2 ⟨rfl, bw2⟩
      have Gw2 := Lib.hid (below_trans Gw1.out bw2)
      have Rw2 := Lib.hid (And.intro (range_kept Rw1.out.1 Zw1.out.1 bw2) (range_kept Rw1.out.2 Zw1.out.2 bw2))
      have Zw2 := Lib.hid (And.intro (Nat.lt_of_lt_of_le Zw1.out.1 bw2.size) (Nat.lt_of_lt_of_le Zw1.out.2 bw2.size))
      clear bw2
      clear c1 c2 c5 c6 c7 c8 c9 c10 c11 c12 c13 c14
      have c1 : w2.cell? ⟨w.heap.size, 1, none⟩ = some (.slice an nl cn) := Rw2.out.1 1 _ rfl
      have c2 : w2.cell? ⟨w.heap.size, 2, none⟩ = some (.slice ah hl ch) := Rw2.out.1 2 _ rfl
      cases OG
      · have hc := HNO.out (by rw [HF'.out]; simp)
        subst hc
        go_wp2_with fail
        go_ret
        exact ⟨rfl, Gw2.out⟩
      have hc := HY.out (by rw [HF'.out]; simp)
      rw [if_neg HZ0.out] at hc
      subst hc
      go_wp2_with fail
      go_ret
      exact ⟨rfl, Gw2.out⟩
    · have hc := HNO.out (by rw [HF'.out]; simp [hn])
      subst hc
      go_wp2_with fail
      go_ret
      exact ⟨rfl, Gw1.out⟩
  by_cases k3 : kind = 3
  · subst k3
    have HF' := Lib.hid (HF.out.trans (by rw [if_neg (by decide), if_neg (by decide), if_pos (by decide)]))
    have gW := two_below w (.cells #[.int .i64 3, .slice an nl cn, .slice ah hl ch, .int .i64 half, .int .i64 age, .int .i64 id, .int .i64 ten, .int .i64 pods, .int .i64 x, .int .i64 y, .int .i64 z, .int .i64 run, .int .i64 lev, .int .i64 pre, .int .i64 n] 31) (.cells #[.int .i64 0, .int .i64 0, .int .i64 0, .int .i64 0, .int .i64 0, .int .i64 0, .int .i64 0, .int .i64 0, .int .i64 0] 29)
    have hR := HR0.out 3
    have hz1 : w.heap.size < ((w.alloc (.cells #[.int .i64 3, .slice an nl cn, .slice ah hl ch, .int .i64 half, .int .i64 age, .int .i64 id, .int .i64 ten, .int .i64 pods, .int .i64 x, .int .i64 y, .int .i64 z, .int .i64 run, .int .i64 lev, .int .i64 pre, .int .i64 n] 31)).alloc (.cells #[.int .i64 0, .int .i64 0, .int .i64 0, .int .i64 0, .int .i64 0, .int .i64 0, .int .i64 0, .int .i64 0, .int .i64 0] 29)).heap.size ∧ w.heap.size + 1 < ((w.alloc (.cells #[.int .i64 3, .slice an nl cn, .slice ah hl ch, .int .i64 half, .int .i64 age, .int .i64 id, .int .i64 ten, .int .i64 pods, .int .i64 x, .int .i64 y, .int .i64 z, .int .i64 run, .int .i64 lev, .int .i64 pre, .int .i64 n] 31)).alloc (.cells #[.int .i64 0, .int .i64 0, .int .i64 0, .int .i64 0, .int .i64 0, .int .i64 0, .int .i64 0, .int .i64 0, .int .i64 0] 29)).heap.size := by rw [World.size_alloc, World.size_alloc]; omega
    have GW := Lib.hid gW; have HR := Lib.hid hR; have HZ := Lib.hid hz1
    clear gW hR hz1
    go_enter Try.func13, Try.ntmps13
    go_wp2_with fail
    refine (HEM.out _).mono ?_
    rintro er w1 ⟨rfl, bw1⟩
    have Gw1 := Lib.hid (below_trans GW.out bw1)
    have Rw1 := Lib.hid (And.intro (range_kept HR.out.1 HZ.out.1 bw1) (range_kept HR.out.2 HZ.out.2 bw1))
    have Zw1 := Lib.hid (And.intro (Nat.lt_of_lt_of_le HZ.out.1 bw1.size) (Nat.lt_of_lt_of_le HZ.out.2 bw1.size))
    clear bw1
    cases E
    · have hc := HNO.out (by rw [HF'.out]; simp)
      subst hc
      go_wp2_with fail
      go_ret
      exact ⟨rfl, Gw1.out⟩
    obtain ⟨hnl0, hhl0⟩ := HE0.out rfl
    obtain rfl : zn = 0 := by omega
    obtain rfl : zh = 0 := by omega
    have hz0 : ¬ (12 < nl ∨ 24 < hl) := by omega
    have HZ0 := Lib.hid hz0
    clear hz0 hnl0 hhl0
    have c1 : w1.cell? ⟨w.heap.size, 1, none⟩ = some (.slice an nl cn) := Rw1.out.1 1 _ rfl
    have c2 : w1.cell? ⟨w.heap.size, 2, none⟩ = some (.slice ah hl ch) := Rw1.out.1 2 _ rfl
    have c5 : w1.cell? ⟨w.heap.size, 5, none⟩ = some (.int .i64 id) := Rw1.out.1 5 _ rfl
    have c6 : w1.cell? ⟨w.heap.size, 6, none⟩ = some (.int .i64 ten) := Rw1.out.1 6 _ rfl
    have c7 : w1.cell? ⟨w.heap.size, 7, none⟩ = some (.int .i64 pods) := Rw1.out.1 7 _ rfl
    have c8 : w1.cell? ⟨w.heap.size, 8, none⟩ = some (.int .i64 x) := Rw1.out.1 8 _ rfl
    have c9 : w1.cell? ⟨w.heap.size, 9, none⟩ = some (.int .i64 y) := Rw1.out.1 9 _ rfl
    have c10 : w1.cell? ⟨w.heap.size, 10, none⟩ = some (.int .i64 z) := Rw1.out.1 10 _ rfl
    have c11 : w1.cell? ⟨w.heap.size, 11, none⟩ = some (.int .i64 run) := Rw1.out.1 11 _ rfl
    have c12 : w1.cell? ⟨w.heap.size, 12, none⟩ = some (.int .i64 lev) := Rw1.out.1 12 _ rfl
    have c13 : w1.cell? ⟨w.heap.size, 13, none⟩ = some (.int .i64 pre) := Rw1.out.1 13 _ rfl
    have c14 : w1.cell? ⟨w.heap.size, 14, none⟩ = some (.int .i64 n) := Rw1.out.1 14 _ rfl
    have z0 : w1.cell? ⟨w.heap.size + 1, 0, none⟩ = some (.int .i64 0) := Rw1.out.2 0 _ rfl
    have z1 : w1.cell? ⟨w.heap.size + 1, 1, none⟩ = some (.int .i64 0) := Rw1.out.2 1 _ rfl
    have z2 : w1.cell? ⟨w.heap.size + 1, 2, none⟩ = some (.int .i64 0) := Rw1.out.2 2 _ rfl
    have z3 : w1.cell? ⟨w.heap.size + 1, 3, none⟩ = some (.int .i64 0) := Rw1.out.2 3 _ rfl
    have z4 : w1.cell? ⟨w.heap.size + 1, 4, none⟩ = some (.int .i64 0) := Rw1.out.2 4 _ rfl
    have z5 : w1.cell? ⟨w.heap.size + 1, 5, none⟩ = some (.int .i64 0) := Rw1.out.2 5 _ rfl
    have z6 : w1.cell? ⟨w.heap.size + 1, 6, none⟩ = some (.int .i64 0) := Rw1.out.2 6 _ rfl
    have z7 : w1.cell? ⟨w.heap.size + 1, 7, none⟩ = some (.int .i64 0) := Rw1.out.2 7 _ rfl
    have z8 : w1.cell? ⟨w.heap.size + 1, 8, none⟩ = some (.int .i64 0) := Rw1.out.2 8 _ rfl
    cases G0
    · have hc := HNO.out (by rw [HF'.out]; simp)
      subst hc
      go_wp2_with fail
      go_ret
      exact ⟨rfl, Gw1.out⟩
    go_wp2_with fail
    refine (rIn1 _ _ _ rfl).mono ?_
    rintro er w2 ⟨rfl, hw2⟩
    have bw2 : Below w1.heap.size w1 w2 := hw2 ▸ (Below.refl _ _).alloc (Nat.le_refl _) _
    have Gw2 := Lib.hid (below_trans Gw1.out bw2)
    have Rw2 := Lib.hid (And.intro (range_kept Rw1.out.1 Zw1.out.1 bw2) (range_kept Rw1.out.2 Zw1.out.2 bw2))
    have Zw2 := Lib.hid (And.intro (Nat.lt_of_lt_of_le Zw1.out.1 bw2.size) (Nat.lt_of_lt_of_le Zw1.out.2 bw2.size))
    clear bw2
    clear hw2 c1 c2 c5 c6 c7 c8 c9 c10 c11 c12 c13 c14 z0 z1 z2 z3 z4 z5 z6 z7 z8
    have c1 : w2.cell? ⟨w.heap.size, 1, none⟩ = some (.slice an nl cn) := Rw2.out.1 1 _ rfl
    have c2 : w2.cell? ⟨w.heap.size, 2, none⟩ = some (.slice ah hl ch) := Rw2.out.1 2 _ rfl
    obtain ⟨r, hr⟩ : ∃ r, Cm.ok n = r := ⟨_, rfl⟩
    rw [hr] at HF' ⊢
    clear hr
    cases r
    · have hc := HNO.out (by rw [HF'.out]; simp)
      subst hc
      go_wp2_with fail
      go_ret
      exact ⟨rfl, Gw2.out⟩
    have hc := HY.out (by rw [HF'.out]; simp)
    rw [if_neg HZ0.out] at hc
    subst hc
    go_wp2_with fail
    go_ret
    exact ⟨rfl, Gw2.out⟩
  by_cases k4 : kind = 4
  · subst k4
    have HF' := Lib.hid (HF.out.trans (by rw [if_neg (by decide), if_neg (by decide), if_pos (by decide)]))
    have gW := two_below w (.cells #[.int .i64 4, .slice an nl cn, .slice ah hl ch, .int .i64 half, .int .i64 age, .int .i64 id, .int .i64 ten, .int .i64 pods, .int .i64 x, .int .i64 y, .int .i64 z, .int .i64 run, .int .i64 lev, .int .i64 pre, .int .i64 n] 31) (.cells #[.int .i64 0, .int .i64 0, .int .i64 0, .int .i64 0, .int .i64 0, .int .i64 0, .int .i64 0, .int .i64 0, .int .i64 0] 29)
    have hR := HR0.out 4
    have hz1 : w.heap.size < ((w.alloc (.cells #[.int .i64 4, .slice an nl cn, .slice ah hl ch, .int .i64 half, .int .i64 age, .int .i64 id, .int .i64 ten, .int .i64 pods, .int .i64 x, .int .i64 y, .int .i64 z, .int .i64 run, .int .i64 lev, .int .i64 pre, .int .i64 n] 31)).alloc (.cells #[.int .i64 0, .int .i64 0, .int .i64 0, .int .i64 0, .int .i64 0, .int .i64 0, .int .i64 0, .int .i64 0, .int .i64 0] 29)).heap.size ∧ w.heap.size + 1 < ((w.alloc (.cells #[.int .i64 4, .slice an nl cn, .slice ah hl ch, .int .i64 half, .int .i64 age, .int .i64 id, .int .i64 ten, .int .i64 pods, .int .i64 x, .int .i64 y, .int .i64 z, .int .i64 run, .int .i64 lev, .int .i64 pre, .int .i64 n] 31)).alloc (.cells #[.int .i64 0, .int .i64 0, .int .i64 0, .int .i64 0, .int .i64 0, .int .i64 0, .int .i64 0, .int .i64 0, .int .i64 0] 29)).heap.size := by rw [World.size_alloc, World.size_alloc]; omega
    have GW := Lib.hid gW; have HR := Lib.hid hR; have HZ := Lib.hid hz1
    clear gW hR hz1
    go_enter Try.func13, Try.ntmps13
    go_wp2_with fail
    refine (HEM.out _).mono ?_
    rintro er w1 ⟨rfl, bw1⟩
    have Gw1 := Lib.hid (below_trans GW.out bw1)
    have Rw1 := Lib.hid (And.intro (range_kept HR.out.1 HZ.out.1 bw1) (range_kept HR.out.2 HZ.out.2 bw1))
    have Zw1 := Lib.hid (And.intro (Nat.lt_of_lt_of_le HZ.out.1 bw1.size) (Nat.lt_of_lt_of_le HZ.out.2 bw1.size))
    clear bw1
    cases E
    · have hc := HNO.out (by rw [HF'.out]; simp)
      subst hc
      go_wp2_with fail
      go_ret
      exact ⟨rfl, Gw1.out⟩
    obtain ⟨hnl0, hhl0⟩ := HE0.out rfl
    obtain rfl : zn = 0 := by omega
    obtain rfl : zh = 0 := by omega
    have hz0 : ¬ (12 < nl ∨ 24 < hl) := by omega
    have HZ0 := Lib.hid hz0
    clear hz0 hnl0 hhl0
    have c1 : w1.cell? ⟨w.heap.size, 1, none⟩ = some (.slice an nl cn) := Rw1.out.1 1 _ rfl
    have c2 : w1.cell? ⟨w.heap.size, 2, none⟩ = some (.slice ah hl ch) := Rw1.out.1 2 _ rfl
    have c5 : w1.cell? ⟨w.heap.size, 5, none⟩ = some (.int .i64 id) := Rw1.out.1 5 _ rfl
    have c6 : w1.cell? ⟨w.heap.size, 6, none⟩ = some (.int .i64 ten) := Rw1.out.1 6 _ rfl
    have c7 : w1.cell? ⟨w.heap.size, 7, none⟩ = some (.int .i64 pods) := Rw1.out.1 7 _ rfl
    have c8 : w1.cell? ⟨w.heap.size, 8, none⟩ = some (.int .i64 x) := Rw1.out.1 8 _ rfl
    have c9 : w1.cell? ⟨w.heap.size, 9, none⟩ = some (.int .i64 y) := Rw1.out.1 9 _ rfl
    have c10 : w1.cell? ⟨w.heap.size, 10, none⟩ = some (.int .i64 z) := Rw1.out.1 10 _ rfl
    have c11 : w1.cell? ⟨w.heap.size, 11, none⟩ = some (.int .i64 run) := Rw1.out.1 11 _ rfl
    have c12 : w1.cell? ⟨w.heap.size, 12, none⟩ = some (.int .i64 lev) := Rw1.out.1 12 _ rfl
    have c13 : w1.cell? ⟨w.heap.size, 13, none⟩ = some (.int .i64 pre) := Rw1.out.1 13 _ rfl
    have c14 : w1.cell? ⟨w.heap.size, 14, none⟩ = some (.int .i64 n) := Rw1.out.1 14 _ rfl
    have z0 : w1.cell? ⟨w.heap.size + 1, 0, none⟩ = some (.int .i64 0) := Rw1.out.2 0 _ rfl
    have z1 : w1.cell? ⟨w.heap.size + 1, 1, none⟩ = some (.int .i64 0) := Rw1.out.2 1 _ rfl
    have z2 : w1.cell? ⟨w.heap.size + 1, 2, none⟩ = some (.int .i64 0) := Rw1.out.2 2 _ rfl
    have z3 : w1.cell? ⟨w.heap.size + 1, 3, none⟩ = some (.int .i64 0) := Rw1.out.2 3 _ rfl
    have z4 : w1.cell? ⟨w.heap.size + 1, 4, none⟩ = some (.int .i64 0) := Rw1.out.2 4 _ rfl
    have z5 : w1.cell? ⟨w.heap.size + 1, 5, none⟩ = some (.int .i64 0) := Rw1.out.2 5 _ rfl
    have z6 : w1.cell? ⟨w.heap.size + 1, 6, none⟩ = some (.int .i64 0) := Rw1.out.2 6 _ rfl
    have z7 : w1.cell? ⟨w.heap.size + 1, 7, none⟩ = some (.int .i64 0) := Rw1.out.2 7 _ rfl
    have z8 : w1.cell? ⟨w.heap.size + 1, 8, none⟩ = some (.int .i64 0) := Rw1.out.2 8 _ rfl
    cases G0
    · have hc := HNO.out (by rw [HF'.out]; simp)
      subst hc
      go_wp2_with fail
      go_ret
      exact ⟨rfl, Gw1.out⟩
    go_wp2_with fail
    refine (rIn1 _ _ _ rfl).mono ?_
    rintro er w2 ⟨rfl, hw2⟩
    have bw2 : Below w1.heap.size w1 w2 := hw2 ▸ (Below.refl _ _).alloc (Nat.le_refl _) _
    have Gw2 := Lib.hid (below_trans Gw1.out bw2)
    have Rw2 := Lib.hid (And.intro (range_kept Rw1.out.1 Zw1.out.1 bw2) (range_kept Rw1.out.2 Zw1.out.2 bw2))
    have Zw2 := Lib.hid (And.intro (Nat.lt_of_lt_of_le Zw1.out.1 bw2.size) (Nat.lt_of_lt_of_le Zw1.out.2 bw2.size))
    clear bw2
    clear hw2 c1 c2 c5 c6 c7 c8 c9 c10 c11 c12 c13 c14 z0 z1 z2 z3 z4 z5 z6 z7 z8
    have c1 : w2.cell? ⟨w.heap.size, 1, none⟩ = some (.slice an nl cn) := Rw2.out.1 1 _ rfl
    have c2 : w2.cell? ⟨w.heap.size, 2, none⟩ = some (.slice ah hl ch) := Rw2.out.1 2 _ rfl
    obtain ⟨r, hr⟩ : ∃ r, Cm.ok n = r := ⟨_, rfl⟩
    rw [hr] at HF' ⊢
    clear hr
    cases r
    · have hc := HNO.out (by rw [HF'.out]; simp)
      subst hc
      go_wp2_with fail
      go_ret
      exact ⟨rfl, Gw2.out⟩
    have hc := HY.out (by rw [HF'.out]; simp)
    rw [if_neg HZ0.out] at hc
    subst hc
    go_wp2_with fail
    go_ret
    exact ⟨rfl, Gw2.out⟩
  by_cases k5 : kind = 5
  · subst k5
    have HF' := Lib.hid (HF.out.trans (by rw [if_neg (by decide), if_neg (by decide), if_pos (by decide)]))
    have gW := two_below w (.cells #[.int .i64 5, .slice an nl cn, .slice ah hl ch, .int .i64 half, .int .i64 age, .int .i64 id, .int .i64 ten, .int .i64 pods, .int .i64 x, .int .i64 y, .int .i64 z, .int .i64 run, .int .i64 lev, .int .i64 pre, .int .i64 n] 31) (.cells #[.int .i64 0, .int .i64 0, .int .i64 0, .int .i64 0, .int .i64 0, .int .i64 0, .int .i64 0, .int .i64 0, .int .i64 0] 29)
    have hR := HR0.out 5
    have hz1 : w.heap.size < ((w.alloc (.cells #[.int .i64 5, .slice an nl cn, .slice ah hl ch, .int .i64 half, .int .i64 age, .int .i64 id, .int .i64 ten, .int .i64 pods, .int .i64 x, .int .i64 y, .int .i64 z, .int .i64 run, .int .i64 lev, .int .i64 pre, .int .i64 n] 31)).alloc (.cells #[.int .i64 0, .int .i64 0, .int .i64 0, .int .i64 0, .int .i64 0, .int .i64 0, .int .i64 0, .int .i64 0, .int .i64 0] 29)).heap.size ∧ w.heap.size + 1 < ((w.alloc (.cells #[.int .i64 5, .slice an nl cn, .slice ah hl ch, .int .i64 half, .int .i64 age, .int .i64 id, .int .i64 ten, .int .i64 pods, .int .i64 x, .int .i64 y, .int .i64 z, .int .i64 run, .int .i64 lev, .int .i64 pre, .int .i64 n] 31)).alloc (.cells #[.int .i64 0, .int .i64 0, .int .i64 0, .int .i64 0, .int .i64 0, .int .i64 0, .int .i64 0, .int .i64 0, .int .i64 0] 29)).heap.size := by rw [World.size_alloc, World.size_alloc]; omega
    have GW := Lib.hid gW; have HR := Lib.hid hR; have HZ := Lib.hid hz1
    clear gW hR hz1
    go_enter Try.func13, Try.ntmps13
    go_wp2_with fail
    refine (HEM.out _).mono ?_
    rintro er w1 ⟨rfl, bw1⟩
    have Gw1 := Lib.hid (below_trans GW.out bw1)
    have Rw1 := Lib.hid (And.intro (range_kept HR.out.1 HZ.out.1 bw1) (range_kept HR.out.2 HZ.out.2 bw1))
    have Zw1 := Lib.hid (And.intro (Nat.lt_of_lt_of_le HZ.out.1 bw1.size) (Nat.lt_of_lt_of_le HZ.out.2 bw1.size))
    clear bw1
    cases E
    · have hc := HNO.out (by rw [HF'.out]; simp)
      subst hc
      go_wp2_with fail
      go_ret
      exact ⟨rfl, Gw1.out⟩
    obtain ⟨hnl0, hhl0⟩ := HE0.out rfl
    obtain rfl : zn = 0 := by omega
    obtain rfl : zh = 0 := by omega
    have hz0 : ¬ (12 < nl ∨ 24 < hl) := by omega
    have HZ0 := Lib.hid hz0
    clear hz0 hnl0 hhl0
    have c1 : w1.cell? ⟨w.heap.size, 1, none⟩ = some (.slice an nl cn) := Rw1.out.1 1 _ rfl
    have c2 : w1.cell? ⟨w.heap.size, 2, none⟩ = some (.slice ah hl ch) := Rw1.out.1 2 _ rfl
    have c5 : w1.cell? ⟨w.heap.size, 5, none⟩ = some (.int .i64 id) := Rw1.out.1 5 _ rfl
    have c6 : w1.cell? ⟨w.heap.size, 6, none⟩ = some (.int .i64 ten) := Rw1.out.1 6 _ rfl
    have c7 : w1.cell? ⟨w.heap.size, 7, none⟩ = some (.int .i64 pods) := Rw1.out.1 7 _ rfl
    have c8 : w1.cell? ⟨w.heap.size, 8, none⟩ = some (.int .i64 x) := Rw1.out.1 8 _ rfl
    have c9 : w1.cell? ⟨w.heap.size, 9, none⟩ = some (.int .i64 y) := Rw1.out.1 9 _ rfl
    have c10 : w1.cell? ⟨w.heap.size, 10, none⟩ = some (.int .i64 z) := Rw1.out.1 10 _ rfl
    have c11 : w1.cell? ⟨w.heap.size, 11, none⟩ = some (.int .i64 run) := Rw1.out.1 11 _ rfl
    have c12 : w1.cell? ⟨w.heap.size, 12, none⟩ = some (.int .i64 lev) := Rw1.out.1 12 _ rfl
    have c13 : w1.cell? ⟨w.heap.size, 13, none⟩ = some (.int .i64 pre) := Rw1.out.1 13 _ rfl
    have c14 : w1.cell? ⟨w.heap.size, 14, none⟩ = some (.int .i64 n) := Rw1.out.1 14 _ rfl
    have z0 : w1.cell? ⟨w.heap.size + 1, 0, none⟩ = some (.int .i64 0) := Rw1.out.2 0 _ rfl
    have z1 : w1.cell? ⟨w.heap.size + 1, 1, none⟩ = some (.int .i64 0) := Rw1.out.2 1 _ rfl
    have z2 : w1.cell? ⟨w.heap.size + 1, 2, none⟩ = some (.int .i64 0) := Rw1.out.2 2 _ rfl
    have z3 : w1.cell? ⟨w.heap.size + 1, 3, none⟩ = some (.int .i64 0) := Rw1.out.2 3 _ rfl
    have z4 : w1.cell? ⟨w.heap.size + 1, 4, none⟩ = some (.int .i64 0) := Rw1.out.2 4 _ rfl
    have z5 : w1.cell? ⟨w.heap.size + 1, 5, none⟩ = some (.int .i64 0) := Rw1.out.2 5 _ rfl
    have z6 : w1.cell? ⟨w.heap.size + 1, 6, none⟩ = some (.int .i64 0) := Rw1.out.2 6 _ rfl
    have z7 : w1.cell? ⟨w.heap.size + 1, 7, none⟩ = some (.int .i64 0) := Rw1.out.2 7 _ rfl
    have z8 : w1.cell? ⟨w.heap.size + 1, 8, none⟩ = some (.int .i64 0) := Rw1.out.2 8 _ rfl
    cases G0
    · have hc := HNO.out (by rw [HF'.out]; simp)
      subst hc
      go_wp2_with fail
      go_ret
      exact ⟨rfl, Gw1.out⟩
    go_wp2_with fail
    refine (rIn1 _ _ _ rfl).mono ?_
    rintro er w2 ⟨rfl, hw2⟩
    have bw2 : Below w1.heap.size w1 w2 := hw2 ▸ (Below.refl _ _).alloc (Nat.le_refl _) _
    have Gw2 := Lib.hid (below_trans Gw1.out bw2)
    have Rw2 := Lib.hid (And.intro (range_kept Rw1.out.1 Zw1.out.1 bw2) (range_kept Rw1.out.2 Zw1.out.2 bw2))
    have Zw2 := Lib.hid (And.intro (Nat.lt_of_lt_of_le Zw1.out.1 bw2.size) (Nat.lt_of_lt_of_le Zw1.out.2 bw2.size))
    clear bw2
    clear hw2 c1 c2 c5 c6 c7 c8 c9 c10 c11 c12 c13 c14 z0 z1 z2 z3 z4 z5 z6 z7 z8
    have c1 : w2.cell? ⟨w.heap.size, 1, none⟩ = some (.slice an nl cn) := Rw2.out.1 1 _ rfl
    have c2 : w2.cell? ⟨w.heap.size, 2, none⟩ = some (.slice ah hl ch) := Rw2.out.1 2 _ rfl
    obtain ⟨r, hr⟩ : ∃ r, Cm.ok n = r := ⟨_, rfl⟩
    rw [hr] at HF' ⊢
    clear hr
    cases r
    · have hc := HNO.out (by rw [HF'.out]; simp)
      subst hc
      go_wp2_with fail
      go_ret
      exact ⟨rfl, Gw2.out⟩
    have hc := HY.out (by rw [HF'.out]; simp)
    rw [if_neg HZ0.out] at hc
    subst hc
    go_wp2_with fail
    go_ret
    exact ⟨rfl, Gw2.out⟩
  by_cases k6 : kind = 6
  · subst k6
    have HF' := Lib.hid (HF.out.trans (by rw [if_neg (by decide), if_neg (by decide), if_neg (by decide), if_pos rfl]))
    have gW := two_below w (.cells #[.int .i64 6, .slice an nl cn, .slice ah hl ch, .int .i64 half, .int .i64 age, .int .i64 id, .int .i64 ten, .int .i64 pods, .int .i64 x, .int .i64 y, .int .i64 z, .int .i64 run, .int .i64 lev, .int .i64 pre, .int .i64 n] 31) (.cells #[.int .i64 0, .int .i64 0, .int .i64 0, .int .i64 0, .int .i64 0, .int .i64 0, .int .i64 0, .int .i64 0, .int .i64 0] 29)
    have hR := HR0.out 6
    have hz1 : w.heap.size < ((w.alloc (.cells #[.int .i64 6, .slice an nl cn, .slice ah hl ch, .int .i64 half, .int .i64 age, .int .i64 id, .int .i64 ten, .int .i64 pods, .int .i64 x, .int .i64 y, .int .i64 z, .int .i64 run, .int .i64 lev, .int .i64 pre, .int .i64 n] 31)).alloc (.cells #[.int .i64 0, .int .i64 0, .int .i64 0, .int .i64 0, .int .i64 0, .int .i64 0, .int .i64 0, .int .i64 0, .int .i64 0] 29)).heap.size ∧ w.heap.size + 1 < ((w.alloc (.cells #[.int .i64 6, .slice an nl cn, .slice ah hl ch, .int .i64 half, .int .i64 age, .int .i64 id, .int .i64 ten, .int .i64 pods, .int .i64 x, .int .i64 y, .int .i64 z, .int .i64 run, .int .i64 lev, .int .i64 pre, .int .i64 n] 31)).alloc (.cells #[.int .i64 0, .int .i64 0, .int .i64 0, .int .i64 0, .int .i64 0, .int .i64 0, .int .i64 0, .int .i64 0, .int .i64 0] 29)).heap.size := by rw [World.size_alloc, World.size_alloc]; omega
    have GW := Lib.hid gW; have HR := Lib.hid hR; have HZ := Lib.hid hz1
    clear gW hR hz1
    go_enter Try.func13, Try.ntmps13
    go_wp2_with fail
    refine (HEM.out _).mono ?_
    rintro er w1 ⟨rfl, bw1⟩
    have Gw1 := Lib.hid (below_trans GW.out bw1)
    have Rw1 := Lib.hid (And.intro (range_kept HR.out.1 HZ.out.1 bw1) (range_kept HR.out.2 HZ.out.2 bw1))
    have Zw1 := Lib.hid (And.intro (Nat.lt_of_lt_of_le HZ.out.1 bw1.size) (Nat.lt_of_lt_of_le HZ.out.2 bw1.size))
    clear bw1
    cases E
    · have hc := HNO.out (by rw [HF'.out]; simp)
      subst hc
      go_wp2_with fail
      go_ret
      exact ⟨rfl, Gw1.out⟩
    obtain ⟨hnl0, hhl0⟩ := HE0.out rfl
    obtain rfl : zn = 0 := by omega
    obtain rfl : zh = 0 := by omega
    have hz0 : ¬ (12 < nl ∨ 24 < hl) := by omega
    have HZ0 := Lib.hid hz0
    clear hz0 hnl0 hhl0
    have c1 : w1.cell? ⟨w.heap.size, 1, none⟩ = some (.slice an nl cn) := Rw1.out.1 1 _ rfl
    have c2 : w1.cell? ⟨w.heap.size, 2, none⟩ = some (.slice ah hl ch) := Rw1.out.1 2 _ rfl
    have c5 : w1.cell? ⟨w.heap.size, 5, none⟩ = some (.int .i64 id) := Rw1.out.1 5 _ rfl
    have c6 : w1.cell? ⟨w.heap.size, 6, none⟩ = some (.int .i64 ten) := Rw1.out.1 6 _ rfl
    have c7 : w1.cell? ⟨w.heap.size, 7, none⟩ = some (.int .i64 pods) := Rw1.out.1 7 _ rfl
    have c8 : w1.cell? ⟨w.heap.size, 8, none⟩ = some (.int .i64 x) := Rw1.out.1 8 _ rfl
    have c9 : w1.cell? ⟨w.heap.size, 9, none⟩ = some (.int .i64 y) := Rw1.out.1 9 _ rfl
    have c10 : w1.cell? ⟨w.heap.size, 10, none⟩ = some (.int .i64 z) := Rw1.out.1 10 _ rfl
    have c11 : w1.cell? ⟨w.heap.size, 11, none⟩ = some (.int .i64 run) := Rw1.out.1 11 _ rfl
    have c12 : w1.cell? ⟨w.heap.size, 12, none⟩ = some (.int .i64 lev) := Rw1.out.1 12 _ rfl
    have c13 : w1.cell? ⟨w.heap.size, 13, none⟩ = some (.int .i64 pre) := Rw1.out.1 13 _ rfl
    have c14 : w1.cell? ⟨w.heap.size, 14, none⟩ = some (.int .i64 n) := Rw1.out.1 14 _ rfl
    have z0 : w1.cell? ⟨w.heap.size + 1, 0, none⟩ = some (.int .i64 0) := Rw1.out.2 0 _ rfl
    have z1 : w1.cell? ⟨w.heap.size + 1, 1, none⟩ = some (.int .i64 0) := Rw1.out.2 1 _ rfl
    have z2 : w1.cell? ⟨w.heap.size + 1, 2, none⟩ = some (.int .i64 0) := Rw1.out.2 2 _ rfl
    have z3 : w1.cell? ⟨w.heap.size + 1, 3, none⟩ = some (.int .i64 0) := Rw1.out.2 3 _ rfl
    have z4 : w1.cell? ⟨w.heap.size + 1, 4, none⟩ = some (.int .i64 0) := Rw1.out.2 4 _ rfl
    have z5 : w1.cell? ⟨w.heap.size + 1, 5, none⟩ = some (.int .i64 0) := Rw1.out.2 5 _ rfl
    have z6 : w1.cell? ⟨w.heap.size + 1, 6, none⟩ = some (.int .i64 0) := Rw1.out.2 6 _ rfl
    have z7 : w1.cell? ⟨w.heap.size + 1, 7, none⟩ = some (.int .i64 0) := Rw1.out.2 7 _ rfl
    have z8 : w1.cell? ⟨w.heap.size + 1, 8, none⟩ = some (.int .i64 0) := Rw1.out.2 8 _ rfl
    cases G0
    · have hc := HNO.out (by rw [HF'.out]; simp)
      subst hc
      go_wp2_with fail
      go_ret
      exact ⟨rfl, Gw1.out⟩
    by_cases hn : n = 0
    · subst hn
      have hc := HY.out (by rw [HF'.out]; simp)
      rw [if_neg HZ0.out] at hc
      subst hc
      go_wp2_with fail
      go_ret
      exact ⟨rfl, Gw1.out⟩
    · have hc := HNO.out (by rw [HF'.out]; simp [hn])
      subst hc
      have hn' : (n == 0) = false := by simpa using hn
      go_wp2_with fail
      go_ret
      exact ⟨rfl, Gw1.out⟩
  have HF' := Lib.hid (HF.out.trans (by rw [if_neg k1, if_neg k2, if_neg (by omega), if_neg k6]))
  have gW := two_below w (.cells #[.int .i64 kind, .slice an nl cn, .slice ah hl ch, .int .i64 half, .int .i64 age, .int .i64 id, .int .i64 ten, .int .i64 pods, .int .i64 x, .int .i64 y, .int .i64 z, .int .i64 run, .int .i64 lev, .int .i64 pre, .int .i64 n] 31) (.cells #[.int .i64 0, .int .i64 0, .int .i64 0, .int .i64 0, .int .i64 0, .int .i64 0, .int .i64 0, .int .i64 0, .int .i64 0] 29)
  have GW := Lib.hid gW; clear gW
  have hc := HNO.out HF'.out
  subst hc
  go_enter Try.func13, Try.ntmps13
  go_wp2_with fail
  go_ret
  exact ⟨rfl, GW.out⟩

end Go.Proofs.Ytpnfhcpapjomnaa

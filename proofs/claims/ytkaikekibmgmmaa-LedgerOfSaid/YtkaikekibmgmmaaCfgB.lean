/- Configurations: the plain answer's Check. -/
import Derived.Test.YtkaikekibmgmmaaCfgA
namespace Go.Proofs.Ytkaikekibmgmmaa
open Go.RowKit
set_option linter.unusedVariables false

/-- All nodes so far. -/
def NodesTo (ns : List Nd) (j : Int) : Prop := ∀ k : Nat, k < j.toNat → ∀ x, ns[k]? = some x → Cf.okNode ns (k : Int) x = true
theorem NodesTo.succ {ns : List Nd} {j : Int} {x : Nd} (h : NodesTo ns j) (h0 : 0 ≤ j) (hx : ns[j.toNat]? = some x) (ho : Cf.okNode ns j x = true) : NodesTo ns (j + 1) := by
  intro k hk y hy
  by_cases e : k = j.toNat
  · subst e
    rw [hx] at hy
    injection hy with hy
    rw [← hy, show ((j.toNat : Nat) : Int) = j by omega]; exact ho
  · exact h k (by omega) y hy
theorem check_frame {c : Cmd} (h : Cf.frame c = false) : Cf.check c = 2 := by unfold Cf.check; rw [if_neg (by rw [h]; simp)]
theorem check_node {c : Cmd} {k : Nat} {x : Nd} (hx : c.nodes[k]? = some x) (h : Cf.okNode c.nodes (k : Int) x = false) : Cf.check c = 2 := by
  rcases Cf.check_two c with e | e
  · have := ((Cf.check_iff c).1 e).2.1 k x hx
    rw [h] at this; cases this
  · exact e
theorem check_host {c : Cmd} {k : Nat} {x : Hs} (hx : c.hosts[k]? = some x) (h : Cf.okHost x = false) : Cf.check c = 2 := by
  rcases Cf.check_two c with e | e
  · have := List.all_eq_true.1 ((Cf.check_iff c).1 e).2.2 x (List.mem_of_getElem? hx)
    rw [h] at this; cases this
  · exact e

set_option maxHeartbeats 2000000 in
set_option maxRecDepth 8000 in
theorem rCheck9_any (c : Cmd) (an ah : Option Addr) (cn ch nb no hb ho : Nat) (w : World) (hN : Sl Nd.c 22 11 w an cn nb no c.nodes) (hH : Sl Hs.c 23 6 w ah ch hb ho c.hosts) :
    Calls Try.prog 8 #[.agg #[.slice an c.nodes.length cn, .slice ah c.hosts.length ch, .int .i64 c.half, .int .i64 c.age]] w (RetBelow (.int .i64 (Cf.check c)) w) := by
  obtain ⟨C, hC⟩ : ∃ r, Cf.check c = r := ⟨_, rfl⟩
  have hfr : Cf.frame c = (decide (1 ≤ c.nodes.length ∧ c.nodes.length ≤ 12) && decide (1 ≤ c.hosts.length ∧ c.hosts.length ≤ 24) && decide (1 ≤ c.half ∧ c.half ≤ 1048576) && decide (0 ≤ c.age ∧ c.age ≤ 1048576)) := rfl
  have hn1 := @check_frame c
  have hn2 := fun k x => @check_node c k x
  have hn3 := fun k x => @check_host c k x
  have hy : Cf.frame c = true → NodesTo c.nodes (c.nodes.length : Int) → c.hosts.all Cf.okHost = true → C = 0 := fun h1 h2 h3 => by
    rw [← hC]
    exact (Cf.check_iff c).2 ⟨h1, fun k x hx => h2 k (by
      rcases Nat.lt_or_ge k c.nodes.length with q | q
      · omega
      · rw [List.getElem?_eq_none q] at hx; cases hx) x hx, h3⟩
  rw [hC] at hn1 hn2 hn3 ⊢
  have hNd := fun (i : Int) x w2 (g : Below w.heap.size w w2) => rNode_any c.nodes an ah cn nb no c.hosts.length ch c.half c.age i x w2 (hN.kept g)
  have hHi := hH.idx
  have n63 := hN.small
  have h63 := hH.small
  obtain ⟨kind, nodes, hosts, ha, ag, g, n⟩ := c
  simp only at hfr hn1 hn2 hn3 hy hNd hHi hN hH n63 h63 ⊢
  obtain ⟨FR, hFR⟩ : ∃ b, Cf.frame ⟨kind, nodes, hosts, ha, ag, g, n⟩ = b := ⟨_, rfl⟩
  rw [hFR] at hfr hn1 hy
  obtain ⟨nl, hnl⟩ : ∃ n, nodes.length = n := ⟨_, rfl⟩
  obtain ⟨hl, hhl⟩ : ∃ n, hosts.length = n := ⟨_, rfl⟩
  rw [hnl] at hfr hy hNd n63 ⊢
  rw [hhl] at hfr hHi hNd h63 ⊢
  obtain ⟨zn, hzn⟩ : ∃ z : Int, (nl : Int) = z := ⟨_, rfl⟩
  obtain ⟨zh, hzh⟩ : ∃ z : Int, (hl : Int) = z := ⟨_, rfl⟩
  rw [hzn] at hy
  have HFR := Lib.hid hfr; have HN1 := Lib.hid hn1; have HN2 := Lib.hid hn2; have HN3 := Lib.hid hn3; have HY := Lib.hid hy; have HND := Lib.hid hNd; have HHI := Lib.hid hHi; have HN := Lib.hid hN; have HH := Lib.hid hH
  have HL := Lib.hid (And.intro hnl hhl)
  clear hfr hn1 hn2 hn3 hy hNd hHi hN hH hnl hhl hFR hC
  have gW : Below w.heap.size w (w.alloc (.cells #[.slice an nl cn, .slice ah hl ch, .int .i64 ha, .int .i64 ag] 25)) := (Below.refl _ _).alloc (Nat.le_refl _) _
  have GW := Lib.hid gW
  have H0 := Lib.hid (Holds.new w #[.slice an nl cn, .slice ah hl ch, .int .i64 ha, .int .i64 ag] 25)
  have LT := Lib.hid (show w.heap.size < (w.alloc (.cells #[.slice an nl cn, .slice ah hl ch, .int .i64 ha, .int .i64 ag] 25)).heap.size by rw [World.size_alloc]; omega)
  clear gW
  by_cases t1 : zn < 1
  · have hf := HFR.out.trans (by rw [Bool.eq_false_iff]; simp only [ne_eq, Bool.and_eq_true, decide_eq_true_eq]; omega : _ = false)
    have hc := HN1.out hf
    subst hc
    go_enter Try.func8, Try.ntmps8
    go_wp2_with fail
    go_ret
    exact ⟨rfl, GW.out⟩
  by_cases t2 : 12 < zn
  · have hf := HFR.out.trans (by rw [Bool.eq_false_iff]; simp only [ne_eq, Bool.and_eq_true, decide_eq_true_eq]; omega : _ = false)
    have hc := HN1.out hf
    subst hc
    go_enter Try.func8, Try.ntmps8
    go_wp2_with fail
    go_ret
    exact ⟨rfl, GW.out⟩
  by_cases t3 : zh < 1
  · have hf := HFR.out.trans (by rw [Bool.eq_false_iff]; simp only [ne_eq, Bool.and_eq_true, decide_eq_true_eq]; omega : _ = false)
    have hc := HN1.out hf
    subst hc
    go_enter Try.func8, Try.ntmps8
    go_wp2_with fail
    go_ret
    exact ⟨rfl, GW.out⟩
  by_cases t4 : 24 < zh
  · have hf := HFR.out.trans (by rw [Bool.eq_false_iff]; simp only [ne_eq, Bool.and_eq_true, decide_eq_true_eq]; omega : _ = false)
    have hc := HN1.out hf
    subst hc
    go_enter Try.func8, Try.ntmps8
    go_wp2_with fail
    go_ret
    exact ⟨rfl, GW.out⟩
  by_cases t5 : ha < 1
  · have hf := HFR.out.trans (by rw [Bool.eq_false_iff]; simp only [ne_eq, Bool.and_eq_true, decide_eq_true_eq]; omega : _ = false)
    have hc := HN1.out hf
    subst hc
    go_enter Try.func8, Try.ntmps8
    go_wp2_with fail
    go_ret
    exact ⟨rfl, GW.out⟩
  by_cases t6 : 1048576 < ha
  · have hf := HFR.out.trans (by rw [Bool.eq_false_iff]; simp only [ne_eq, Bool.and_eq_true, decide_eq_true_eq]; omega : _ = false)
    have hc := HN1.out hf
    subst hc
    go_enter Try.func8, Try.ntmps8
    go_wp2_with fail
    go_ret
    exact ⟨rfl, GW.out⟩
  by_cases t7 : ag < 0
  · have hf := HFR.out.trans (by rw [Bool.eq_false_iff]; simp only [ne_eq, Bool.and_eq_true, decide_eq_true_eq]; omega : _ = false)
    have hc := HN1.out hf
    subst hc
    go_enter Try.func8, Try.ntmps8
    go_wp2_with fail
    go_ret
    exact ⟨rfl, GW.out⟩
  by_cases t8 : 1048576 < ag
  · have hf := HFR.out.trans (by rw [Bool.eq_false_iff]; simp only [ne_eq, Bool.and_eq_true, decide_eq_true_eq]; omega : _ = false)
    have hc := HN1.out hf
    subst hc
    go_enter Try.func8, Try.ntmps8
    go_wp2_with fail
    go_ret
    exact ⟨rfl, GW.out⟩
  have hok : FR = true := HFR.out.trans (by simp only [Bool.and_eq_true, decide_eq_true_eq]; omega)
  subst hok
  go_enter Try.func8, Try.ntmps8
  go_wp2_with fail
  obtain ⟨W, hW⟩ : ∃ W, (w.alloc (.cells #[.slice an nl cn, .slice ah hl ch, .int .i64 ha, .int .i64 ag] 25)) = W := ⟨_, rfl⟩
  rw [hW] at GW H0 LT ⊢
  clear hW
  have HQ := Lib.hid (fun w2 (g : Below W.heap.size W w2) => H0.out.kept LT.out g)
  go_loopw [3] (fun i wr => ∃ (j : Int), i = .int .i64 j ∧ 0 ≤ j ∧ j ≤ zn ∧ Hid (NodesTo nodes j ∧ Below W.heap.size W wr)) (fun i _ => (zn - intOf i).toNat)
  case atStart => exact ⟨0, rfl, by omega, by omega, fun k hk => by simp at hk, Below.refl _ _⟩
  case round =>
    obtain ⟨j, rfl, hj0, hjz, hd⟩ := hrel
    have hq := HQ.out wr hd.out.2
    have q0 : wr.cell? ⟨w.heap.size, 0, none⟩ = some (.slice an nl cn) := hq 0 _ rfl
    have q1 : wr.cell? ⟨w.heap.size, 1, none⟩ = some (.slice ah hl ch) := hq 1 _ rfl
    have q2 : wr.cell? ⟨w.heap.size, 2, none⟩ = some (.int .i64 ha) := hq 2 _ rfl
    have q3 : wr.cell? ⟨w.heap.size, 3, none⟩ = some (.int .i64 ag) := hq 3 _ rfl
    clear hq
    by_cases hlt : j < zn
    · obtain ⟨x, hx⟩ : ∃ x, nodes[j.toNat]? = some x := ⟨_, List.getElem?_eq_getElem (by have := HL.out; omega)⟩
      have HX := Lib.hid hx; clear hx
      obtain ⟨r, hr⟩ : ∃ r, Cf.okNode nodes j x = r := ⟨_, rfl⟩
      have hcall := HND.out j x wr (below_trans GW.out hd.out.2) hj0 HX.out
      rw [hr] at hcall
      have HC := Lib.hid hcall; have HR := Lib.hid hr
      clear hcall hr
      go_wp2_with fail
      refine HC.out.mono ?_
      rintro er w2 ⟨rfl, b2⟩
      have B2 := Lib.hid (hd.out.2.trans (b2.mono hd.out.2.size)); clear b2 q0 q1 q2 q3
      cases r
      · have hf := HN2.out j.toNat x HX.out (by rw [show ((j.toNat : Nat) : Int) = j by omega]; exact HR.out)
        subst hf
        go_wp2_with fail
        go_ret
        exact ⟨rfl, below_trans GW.out B2.out⟩
      · go_wp2_with fail
        go_roundw
        case rel => exact ⟨j + 1, rfl, by omega, by omega, hd.out.1.succ hj0 HX.out HR.out, B2.out⟩
        case measure => simp [intOf]; omega
    · have HALL := Lib.hid (show NodesTo nodes zn by rw [show zn = j by omega]; exact hd.out.1)
      have D1 := Lib.hid hd.out.2
      clear hd
      go_wp2_with fail
      go_loopw [4] (fun i wr => ∃ (j : Int), i = .int .i64 j ∧ 0 ≤ j ∧ j ≤ zh ∧ Hid (Upto Cf.okHost hosts j ∧ Below W.heap.size W wr)) (fun i _ => (zh - intOf i).toNat)
      case atStart => exact ⟨0, rfl, by omega, by omega, Upto.zero _ _, D1.out⟩
      case round =>
        clear q0 q1 q2 q3
        obtain ⟨j, rfl, hj0, hjz, hd⟩ := hrel
        have q1 : wr.cell? ⟨w.heap.size, 1, none⟩ = some (.slice ah hl ch) := HQ.out wr hd.out.2 1 _ rfl
        by_cases hlt : j < zh
        · obtain ⟨x, hx⟩ : ∃ x, hosts[j.toNat]? = some x := ⟨_, List.getElem?_eq_getElem (by have := HL.out; omega)⟩
          have hi := HHI.out j.toNat (by omega)
          rw [show ((j.toNat : Nat) : Int) = j by omega] at hi
          have hr := ((HH.out.kept GW.out).kept hd.out.2).at_ j.toNat x hx
          have hoh : Cf.okHost x = (decide (0 ≤ x.fl ∧ x.fl ≤ 100) && decide (0 ≤ x.bl ∧ x.bl ≤ 100) && decide (0 ≤ x.ra ∧ x.ra ≤ 100) && Cf.valid x.cap) := rfl
          have hbad := HN3.out j.toNat x hx
          have hgood := fun h => hd.out.1.succ hj0 hx h
          obtain ⟨OK, hOK⟩ : ∃ b, Cf.okHost x = b := ⟨_, rfl⟩
          rw [hOK] at hoh hbad hgood
          obtain ⟨f, l, r, ⟨a0, a1, a2⟩⟩ := x
          simp only [Hs.c] at hr hoh
          obtain ⟨V, hV⟩ : ∃ b, Cf.valid ⟨a0, a1, a2⟩ = b := ⟨_, rfl⟩
          have hvc := fun w => rValid3 ⟨a0, a1, a2⟩ w
          rw [hV] at hoh hvc
          simp only at hvc
          have HOH := Lib.hid hoh; have HBAD := Lib.hid hbad; have HGOOD := Lib.hid hgood; have HVC := Lib.hid hvc; have HR := Lib.hid hr
          clear hoh hbad hgood hvc hr hx hOK hV
          obtain ⟨oi, hoi⟩ : ∃ n, ho + j.toNat * 6 = n := ⟨_, rfl⟩
          rw [hoi] at hi HR
          clear hoi
          have G2 := Lib.hid (hd.out.2.alloc hd.out.2.size (.cells #[.int .i64 f, .int .i64 l, .int .i64 r, .int .i64 a0, .int .i64 a1, .int .i64 a2] 58))
          have RG := Lib.hid (range_new wr #[.int .i64 f, .int .i64 l, .int .i64 r, .int .i64 a0, .int .i64 a1, .int .i64 a2] 58 3 _ (three_at (a := .int .i64 a0) (b := .int .i64 a1) (c := .int .i64 a2) rfl rfl rfl))
          by_cases u1 : f < 0
          · have hf := HBAD.out (HOH.out.trans (by rw [Bool.eq_false_iff]; simp only [ne_eq, Bool.and_eq_true, decide_eq_true_eq]; omega : _ = false))
            subst hf
            go_upto_region 12 with (first | (refine wpList_load_mid rfl 58 _ rfl hb oi rfl _ _ HR.out Try.underlying58 rfl host_len ?_) | fail)
            go_wp2_with fail
            go_ret
            exact ⟨rfl, below_trans GW.out G2.out⟩
          by_cases u2 : 100 < f
          · have hf := HBAD.out (HOH.out.trans (by rw [Bool.eq_false_iff]; simp only [ne_eq, Bool.and_eq_true, decide_eq_true_eq]; omega : _ = false))
            subst hf
            go_upto_region 12 with (first | (refine wpList_load_mid rfl 58 _ rfl hb oi rfl _ _ HR.out Try.underlying58 rfl host_len ?_) | fail)
            go_wp2_with fail
            go_ret
            exact ⟨rfl, below_trans GW.out G2.out⟩
          by_cases u3 : l < 0
          · have hf := HBAD.out (HOH.out.trans (by rw [Bool.eq_false_iff]; simp only [ne_eq, Bool.and_eq_true, decide_eq_true_eq]; omega : _ = false))
            subst hf
            go_upto_region 12 with (first | (refine wpList_load_mid rfl 58 _ rfl hb oi rfl _ _ HR.out Try.underlying58 rfl host_len ?_) | fail)
            go_wp2_with fail
            go_ret
            exact ⟨rfl, below_trans GW.out G2.out⟩
          by_cases u4 : 100 < l
          · have hf := HBAD.out (HOH.out.trans (by rw [Bool.eq_false_iff]; simp only [ne_eq, Bool.and_eq_true, decide_eq_true_eq]; omega : _ = false))
            subst hf
            go_upto_region 12 with (first | (refine wpList_load_mid rfl 58 _ rfl hb oi rfl _ _ HR.out Try.underlying58 rfl host_len ?_) | fail)
            go_wp2_with fail
            go_ret
            exact ⟨rfl, below_trans GW.out G2.out⟩
          by_cases u5 : r < 0
          · have hf := HBAD.out (HOH.out.trans (by rw [Bool.eq_false_iff]; simp only [ne_eq, Bool.and_eq_true, decide_eq_true_eq]; omega : _ = false))
            subst hf
            go_upto_region 12 with (first | (refine wpList_load_mid rfl 58 _ rfl hb oi rfl _ _ HR.out Try.underlying58 rfl host_len ?_) | fail)
            go_wp2_with fail
            go_ret
            exact ⟨rfl, below_trans GW.out G2.out⟩
          by_cases u6 : 100 < r
          · have hf := HBAD.out (HOH.out.trans (by rw [Bool.eq_false_iff]; simp only [ne_eq, Bool.and_eq_true, decide_eq_true_eq]; omega : _ = false))
            subst hf
            go_upto_region 12 with (first | (refine wpList_load_mid rfl 58 _ rfl hb oi rfl _ _ HR.out Try.underlying58 rfl host_len ?_) | fail)
            go_wp2_with fail
            go_ret
            exact ⟨rfl, below_trans GW.out G2.out⟩
          go_upto_region 12 with (first | (refine wpList_load_mid rfl 58 _ rfl hb oi rfl _ _ HR.out Try.underlying58 rfl host_len ?_) | fail)
          obtain ⟨e0, e1, e2⟩ : (wr.alloc (.cells #[.int .i64 f, .int .i64 l, .int .i64 r, .int .i64 a0, .int .i64 a1, .int .i64 a2] 58)).cell? ⟨wr.heap.size, 3, none⟩ = some (.int .i64 a0) ∧ (wr.alloc (.cells #[.int .i64 f, .int .i64 l, .int .i64 r, .int .i64 a0, .int .i64 a1, .int .i64 a2] 58)).cell? ⟨wr.heap.size, 4, none⟩ = some (.int .i64 a1) ∧ (wr.alloc (.cells #[.int .i64 f, .int .i64 l, .int .i64 r, .int .i64 a0, .int .i64 a1, .int .i64 a2] 58)).cell? ⟨wr.heap.size, 5, none⟩ = some (.int .i64 a2) := range_three RG.out
          go_wp2_with fail
          refine (HVC.out _).mono ?_
          rintro er w2 ⟨rfl, b2⟩
          have B2 := Lib.hid (G2.out.trans (b2.mono G2.out.size)); clear b2 q1 e0 e1 e2
          cases V
          · have hf := HBAD.out (HOH.out.trans (by simp : _ = false))
            subst hf
            go_wp2_with fail
            go_ret
            exact ⟨rfl, below_trans GW.out B2.out⟩
          · have hg := HGOOD.out (HOH.out.trans (by simp only [Bool.and_true, Bool.and_eq_true, decide_eq_true_eq]; omega : _ = true))
            have HG := Lib.hid hg; clear hg
            go_wp2_with fail
            go_roundw
            case rel => exact ⟨j + 1, rfl, by omega, by omega, HG.out, B2.out⟩
            case measure => simp [intOf]; omega
        · have hf := HY.out (by trivial) HALL.out (hd.out.1.all (by have := HL.out; omega))
          subst hf
          go_wp2_with fail
          go_ret
          exact ⟨rfl, below_trans GW.out hd.out.2⟩

end Go.Proofs.Ytkaikekibmgmmaa

/- Two commands compared: the plain answer's Same. -/
import Derived.Test.YtpnfhcpapjomnaaCmdK
import Derived.Test.YtpnfhcpapjomnaaCmdT
namespace Go.Proofs.Ytpnfhcpapjomnaa
open Go.RowKit
set_option linter.unusedVariables false

set_option maxHeartbeats 1000000 in
set_option maxRecDepth 8000 in
theorem rSame_any (a b : Cmd) (an ah bn bh : Option Addr) (cn ch nb no hb ho cn' ch' nb' no' hb' ho' : Nat) (w : World) (hN : Sl Nd.c 22 11 w an cn nb no a.nodes) (hH : Sl Hs.c 23 6 w ah ch hb ho a.hosts)
    (hN' : Sl Nd.c 22 11 w bn cn' nb' no' b.nodes) (hH' : Sl Hs.c 23 6 w bh ch' hb' ho' b.hosts) :
    Calls Try.prog 16 #[.agg (a.c (.slice an a.nodes.length cn) (.slice ah a.hosts.length ch)), .agg (b.c (.slice bn b.nodes.length cn') (.slice bh b.hosts.length ch'))] w (RetBelow (.bool (decide (a = b))) w) := by
  have hc := fun w2 (g : Below w.heap.size w w2) => rConfig_any a b an ah bn bh cn ch nb no hb ho cn' ch' nb' no' hb' ho' w2 (hN.kept g) (hH.kept g) (hN'.kept g) (hH'.kept g)
  have hge := fun w => gang_eql w a.gang b.gang
  have hgg := fun w o x y => gang_guard w o x y a.gang.c b.gang.c
  obtain ⟨F, hF⟩ : ∃ f, decide (a = b) = f := ⟨_, rfl⟩
  obtain ⟨FC, hFC⟩ : ∃ f, Cm.sameC a b = f := ⟨_, rfl⟩
  obtain ⟨G0, hG0⟩ : ∃ f, decide (a.gang = b.gang) = f := ⟨_, rfl⟩
  have hf : F = (decide (a.kind = b.kind) && G0 && decide (a.n = b.n) && FC) := by
    rw [← hF, ← hFC, ← hG0, Bool.eq_iff_iff]
    simp only [Cm.sameC, Bool.and_eq_true, decide_eq_true_eq, Cmd.eq_iff]
    constructor
    · rintro ⟨h1, h2, h3, h4, h5, h6, h7⟩; exact ⟨⟨⟨h1, h6⟩, h7⟩, ⟨⟨⟨h2, h3⟩, h4⟩, h5⟩⟩
    · rintro ⟨⟨⟨h1, h6⟩, h7⟩, ⟨⟨⟨h2, h3⟩, h4⟩, h5⟩⟩; exact ⟨h1, h2, h3, h4, h5, h6, h7⟩
  rw [hF]
  rw [hFC] at hc
  rw [hG0] at hge
  clear hF hFC hG0 hN hH hN' hH'
  obtain ⟨kind, nodes, hosts, half, age, ⟨id, ten, pods, ⟨x, y, z⟩, run, lev, pre⟩, n⟩ := a
  obtain ⟨kind', nodes', hosts', half', age', ⟨id', ten', pods', ⟨x', y', z'⟩, run', lev', pre'⟩, n'⟩ := b
  simp only [Cmd.c, Gg.c] at *
  obtain ⟨nl, hnl⟩ : ∃ n, nodes.length = n := ⟨_, rfl⟩
  obtain ⟨hl, hhl⟩ : ∃ n, hosts.length = n := ⟨_, rfl⟩
  obtain ⟨nl', hnl'⟩ : ∃ n, nodes'.length = n := ⟨_, rfl⟩
  obtain ⟨hl', hhl'⟩ : ∃ n, hosts'.length = n := ⟨_, rfl⟩
  rw [hnl, hhl, hnl', hhl'] at hc ⊢
  have gW := two_below w (.cells #[.int .i64 kind, .slice an nl cn, .slice ah hl ch, .int .i64 half, .int .i64 age, .int .i64 id, .int .i64 ten, .int .i64 pods, .int .i64 x, .int .i64 y, .int .i64 z, .int .i64 run, .int .i64 lev, .int .i64 pre, .int .i64 n] 31) (.cells #[.int .i64 kind', .slice bn nl' cn', .slice bh hl' ch', .int .i64 half', .int .i64 age', .int .i64 id', .int .i64 ten', .int .i64 pods', .int .i64 x', .int .i64 y', .int .i64 z', .int .i64 run', .int .i64 lev', .int .i64 pre', .int .i64 n'] 31)
  have GW := Lib.hid gW; have HC := Lib.hid hc; have HF := Lib.hid hf
  clear gW hc hf hnl hhl hnl' hhl'
  by_cases e1 : kind = kind'
  · subst e1
    cases G0
    · have hf := HF.out.trans (by simp : _ = false)
      subst hf
      go_enter Try.func16, Try.ntmps16
      go_wp2_with fail
      go_ret
      exact ⟨rfl, GW.out⟩
    · by_cases e2 : n = n'
      · subst e2
        have hf := HF.out.trans (by simp : _ = FC)
        subst hf
        go_enter Try.func16, Try.ntmps16
        go_wp2_with fail
        refine (HC.out _ GW.out).mono ?_
        rintro er w2 ⟨rfl, b2⟩
        have B2 := Lib.hid (below_trans GW.out b2); clear b2
        go_wp2_with fail
        go_ret
        exact ⟨rfl, B2.out⟩
      · have hf := HF.out.trans (by simp [e2] : _ = false)
        subst hf
        have e2' : (n == n') = false := by simpa using e2
        go_enter Try.func16, Try.ntmps16
        go_wp2_with fail
        go_ret
        exact ⟨rfl, GW.out⟩
  · have hf := HF.out.trans (by simp [e1] : _ = false)
    subst hf
    have e1' : (kind == kind') = false := by simpa using e1
    go_enter Try.func16, Try.ntmps16
    go_wp2_with fail
    go_ret
    exact ⟨rfl, GW.out⟩

theorem rSameAt {a b : Cmd} {va ha vb hb : Value} {w : World} (h1 : CmAt a va ha w) (h2 : CmAt b vb hb w) : Calls Try.prog 16 #[.agg (a.c va ha), .agg (b.c vb hb)] w (RetBelow (.bool (decide (a = b))) w) := by
  obtain ⟨an, cn, nb, no, ah, ch, hb, ho, rfl, rfl, s1, s2⟩ := h1
  obtain ⟨bn, cn', nb', no', bh, ch', hb', ho', rfl, rfl, s3, s4⟩ := h2
  exact rSame_any a b an ah bn bh cn ch nb no hb ho cn' ch' nb' no' hb' ho' w s1 s2 s3 s4

end Go.Proofs.Ytpnfhcpapjomnaa

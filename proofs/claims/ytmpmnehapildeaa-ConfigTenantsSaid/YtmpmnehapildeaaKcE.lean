/- The landed configuration: all nodes. -/
import Derived.Test.YtmpmnehapildeaaKcC
import Derived.Test.YtmpmnehapildeaaKcD
namespace Go.Proofs.Ytmpmnehapildeaa
open Go.RowKit
set_option linter.unusedVariables false

namespace Cf
def quota (x : Nd) : Bool := valid x.nom && valid x.bor && valid x.lend && fits x.lend x.nom
def bareB (x : Nd) : Bool := decide (x.nom = z3) && decide (x.bor = z3) && decide (x.lend = z3)
theorem bare_quota (x : Nd) (h : bareB x = true) : quota x = true := by
  simp only [bareB, Bool.and_eq_true, decide_eq_true_eq] at h
  unfold quota
  rw [h.1.1, h.1.2, h.2]
  decide
theorem place_parts (i : Int) (x : Nd) (h : 0 ≤ i) : place i x = (okPar x.par i && decide (1 ≤ x.wt ∧ x.wt ≤ 1000)) := by
  rw [Bool.eq_iff_iff]
  unfold place okPar
  by_cases hi : i = 0
  · rw [if_pos hi]
    simp only [Bool.not_eq_true', Bool.or_eq_false_iff, decide_eq_false_iff_not, Bool.and_eq_true, decide_eq_true_eq]
    omega
  · rw [if_neg hi]
    simp only [Bool.not_eq_true', Bool.or_eq_false_iff, decide_eq_false_iff_not, Bool.and_eq_true, decide_eq_true_eq]
    omega
theorem okNode_parts (ns : List Nd) (i : Int) (x : Nd) (h : 0 ≤ i) : okNode ns i x = (okPar x.par i && decide (1 ≤ x.wt ∧ x.wt ≤ 1000) && quota x && (leaf ns i || bareB x)) := by
  have e : okNode ns i x = (place i x && (if leaf ns i = true then quota x else bareB x)) := rfl
  rw [e, place_parts i x h]
  have hb := bare_quota x
  cases leaf ns i
  · rw [if_neg (by simp), Bool.false_or]
    cases q : bareB x
    · simp
    · rw [hb q, Bool.and_true, Bool.and_true]
  · rw [if_pos rfl, Bool.true_or, Bool.and_true]
end Cf

set_option maxHeartbeats 1000000 in
set_option maxRecDepth 8000 in
theorem kNodes (ns : List Nd) (an : Option Addr) (cn nb no : Nat) (w : World) (hN : Sl Nd.c 22 11 w an cn nb no ns) :
    Calls Try.prog 15 #[.slice an ns.length cn] w (RetBelow (.bool (decide (1 ≤ ns.length ∧ ns.length ≤ 12) && Cf.allFrom ns 0 ns)) w) := by
  obtain ⟨F, hF⟩ : ∃ f, (decide (1 ≤ ns.length ∧ ns.length ≤ 12) && Cf.allFrom ns 0 ns) = f := ⟨_, rfl⟩
  have hall := Cf.allFrom_iff ns ns 0
  simp only [Nat.zero_add] at hall
  have hout : ¬ (1 ≤ (ns.length : Int) ∧ (ns.length : Int) ≤ 12) → F = false := fun h => by rw [← hF, decide_eq_false (by omega)]; rfl
  have hyes : (1 ≤ (ns.length : Int) ∧ (ns.length : Int) ≤ 12) → NodesTo ns (ns.length : Int) → F = true := fun h h2 => by
    rw [← hF, decide_eq_true (by omega), hall.2 (fun k x hx => h2 k (by
      rcases Nat.lt_or_ge k ns.length with q | q
      · omega
      · rw [List.getElem?_eq_none q] at hx; cases hx) x hx)]
    rfl
  have hbad0 : ∀ (k : Nat) x, ns[k]? = some x → Cf.okNode ns (k : Int) x = false → F = false := fun k x hx h => by
    rw [← hF, Bool.and_eq_false_iff]
    right
    rw [Bool.eq_false_iff]
    intro q
    have := hall.1 q k x hx
    rw [h] at this
    cases this
  rw [hF]
  have hNi := hN.idx
  have n63 := hN.small
  have hpa := fun h => kParents ns an cn nb no w hN h
  obtain ⟨nl, hnl⟩ : ∃ n, ns.length = n := ⟨_, rfl⟩
  rw [hnl] at hNi n63 hout hyes hpa ⊢
  obtain ⟨zn, hzn⟩ : ∃ z : Int, (nl : Int) = z := ⟨_, rfl⟩
  rw [hzn] at hout hyes
  have hw := fun w => kWithin zn 1 12 w
  have HNI := Lib.hid hNi; have HN := Lib.hid hN; have HL := Lib.hid hnl; have HO := Lib.hid hout; have HY := Lib.hid hyes; have HB0 := Lib.hid hbad0; have HPA := Lib.hid hpa; have HZ := Lib.hid hzn
  clear hNi hN hnl hout hyes hbad0 hF hall hpa
  by_cases h1 : 1 ≤ zn ∧ zn ≤ 12
  case neg =>
    have hf := HO.out h1
    subst hf
    rw [decide_eq_false h1] at hw
    have WI := Lib.hid hw
    clear hw h1
    go_enter Try.func15, Try.ntmps15
    go_wp2_with fail
    refine (WI.out _).mono ?_
    rintro er w2 ⟨rfl, rfl⟩
    go_wp2_with fail
    go_ret
    exact ⟨rfl, Below.refl _ _⟩
  have HY2 := Lib.hid (HY.out h1)
  rw [decide_eq_true h1] at hw
  have WI := Lib.hid hw
  have PA := Lib.hid (HPA.out (by omega))
  clear hw HY HO HPA
  go_enter Try.func15, Try.ntmps15
  go_wp2_with fail
  refine (WI.out _).mono ?_
  rintro er w2 ⟨rfl, rfl⟩
  go_wp2_with fail
  refine PA.out.mono ?_
  rintro er w1 ⟨rfl, r1, b1⟩
  have hbi := fun (i : Nat) (h : i < nl) w0 => bool_index w.heap.size nl nl i h w0
  have R1 := Lib.hid r1; have B1 := Lib.hid b1; have HBI := Lib.hid hbi
  clear r1 b1 hbi
  go_wp2_with fail
  go_loopw [12] (fun i wr => ∃ (j : Int), i = .int .i64 j ∧ 0 ≤ j ∧ j ≤ zn ∧ Hid (NodesTo ns j ∧ Below w1.heap.size w1 wr)) (fun i _ => (zn - intOf i).toNat)
  case atStart => exact ⟨0, rfl, by omega, by omega, fun k hk => by simp at hk, Below.refl _ _⟩
  case round =>
    obtain ⟨j, rfl, hj0, hjz, hd⟩ := hrel
    by_cases hlt : j < zn
    · obtain ⟨x, hx⟩ : ∃ x, ns[j.toNat]? = some x := ⟨_, List.getElem?_eq_getElem (by have := HL.out; omega)⟩
      have hi := HNI.out j.toNat (by omega)
      have hib := HBI.out j.toNat (by omega)
      have hcb : wr.cell? ⟨w.heap.size, j.toNat, none⟩ = some (.bool (!Cf.leaf ns j)) := by
        rw [(R1.out.under hd.out.2).at_, bcells_at, Cf.pars_at ns j.toNat (by have := HL.out; have := HZ.out; omega), show ((j.toNat : Nat) : Int) = j by omega]
        rfl
      rw [show ((j.toNat : Nat) : Int) = j by omega] at hi hib
      have hr := fun w2 (g : Below w.heap.size w w2) => (HN.out.kept g).at_ j.toNat x hx
      have hok := Cf.okNode_parts ns j x hj0
      have hbad := fun (h : Cf.okNode ns j x = false) => HB0.out j.toNat x hx (by rw [show ((j.toNat : Nat) : Int) = j by omega]; exact h)
      have hgood := fun (h : Cf.okNode ns j x = true) => hd.out.1.succ hj0 hx h
      have hc1 := fun w => kParent x.par j hj0 (by omega) w
      have hc2 := fun w => kWithin x.wt 1 1000 w
      have hc3 : ∀ w, Calls Try.prog 26 #[.agg x.c] w (RetBelow (.bool (Cf.quota x)) w) := fun w => kQuota x w
      have hc4 : ∀ w, Calls Try.prog 27 #[.agg x.c] w (RetBelow (.bool (Cf.bareB x)) w) := fun w => kBare x w
      obtain ⟨OK, hOK⟩ : ∃ b, Cf.okNode ns j x = b := ⟨_, rfl⟩
      rw [hOK] at hok hbad hgood
      obtain ⟨m1, e1⟩ : ∃ b, Cf.okPar x.par j = b := ⟨_, rfl⟩
      obtain ⟨m2, e2⟩ : ∃ b, decide (1 ≤ x.wt ∧ x.wt ≤ 1000) = b := ⟨_, rfl⟩
      obtain ⟨m3, e3⟩ : ∃ b, Cf.quota x = b := ⟨_, rfl⟩
      obtain ⟨m4, e4⟩ : ∃ b, Cf.bareB x = b := ⟨_, rfl⟩
      obtain ⟨L, e5⟩ : ∃ b, Cf.leaf ns j = b := ⟨_, rfl⟩
      rw [e1] at hc1 hok
      rw [e2] at hc2 hok
      rw [e3] at hc3 hok
      rw [e4] at hc4 hok
      rw [e5] at hcb hok
      obtain ⟨p, t, ⟨a0, a1, a2⟩, ⟨b0, b1, b2⟩, ⟨c0, c1, c2⟩⟩ := x
      simp only [Nd.c] at hr hok hc1 hc2 hc3 hc4
      obtain ⟨oi, hoi⟩ : ∃ n, no + j.toNat * 11 = n := ⟨_, rfl⟩
      rw [hoi] at hi
      simp only [hoi] at hr
      have D2 := Lib.hid (below_trans B1.out hd.out.2)
      have C1 := Lib.hid hc1; have C2 := Lib.hid hc2; have C3 := Lib.hid hc3; have C4 := Lib.hid hc4; have OKK := Lib.hid hok; have HBAD := Lib.hid hbad; have HGOOD := Lib.hid hgood
      have HLD := Lib.hid hr
      have f0 : wr.cell? ⟨nb, oi, none⟩ = some (.int .i64 p) := hr wr D2.out 0 _ rfl
      have f1 : wr.cell? ⟨nb, oi + 1, none⟩ = some (.int .i64 t) := hr wr D2.out 1 _ rfl
      have f2 : wr.cell? ⟨nb, oi + 2, none⟩ = some (.int .i64 a0) := hr wr D2.out 2 _ rfl
      have f3 : wr.cell? ⟨nb, oi + 3, none⟩ = some (.int .i64 a1) := hr wr D2.out 3 _ rfl
      have f4 : wr.cell? ⟨nb, oi + 4, none⟩ = some (.int .i64 a2) := hr wr D2.out 4 _ rfl
      have f5 : wr.cell? ⟨nb, oi + 5, none⟩ = some (.int .i64 b0) := hr wr D2.out 5 _ rfl
      have f6 : wr.cell? ⟨nb, oi + 6, none⟩ = some (.int .i64 b1) := hr wr D2.out 6 _ rfl
      have f7 : wr.cell? ⟨nb, oi + 7, none⟩ = some (.int .i64 b2) := hr wr D2.out 7 _ rfl
      have f8 : wr.cell? ⟨nb, oi + 8, none⟩ = some (.int .i64 c0) := hr wr D2.out 8 _ rfl
      have f9 : wr.cell? ⟨nb, oi + 9, none⟩ = some (.int .i64 c1) := hr wr D2.out 9 _ rfl
      have f10 : wr.cell? ⟨nb, oi + 10, none⟩ = some (.int .i64 c2) := hr wr D2.out 10 _ rfl
      have G := Lib.hid hd.out.2
      clear hc1 hc2 hc3 hc4 hok hbad hgood hr hx hOK e1 e2 e3 e4 e5 hoi hd
      go_wp2_with fail
      refine (C1.out _).mono ?_
      rintro er w2 ⟨rfl, rfl⟩
      cases m1
      · have hf := HBAD.out (OKK.out.trans (by simp : _ = false))
        subst hf
        go_wp2_with fail
        go_ret
        exact ⟨rfl, D2.out⟩
      go_wp2_with fail
      refine (C2.out _).mono ?_
      rintro er w2 ⟨rfl, rfl⟩
      cases m2
      · have hf := HBAD.out (OKK.out.trans (by simp : _ = false))
        subst hf
        go_wp2_with fail
        go_ret
        exact ⟨rfl, D2.out⟩
      go_wp2_with fail
      refine (C3.out _).mono ?_
      rintro er w3 ⟨rfl, b3⟩
      have D3 := Lib.hid (below_trans D2.out b3); have G3 := Lib.hid (below_trans G.out b3)
      clear b3 hcb f0 f1 f2 f3 f4 f5 f6 f7 f8 f9 f10
      cases m3
      · have hf := HBAD.out (OKK.out.trans (by simp : _ = false))
        subst hf
        go_wp2_with fail
        go_ret
        exact ⟨rfl, D3.out⟩
      cases L
      · have f0 : w3.cell? ⟨nb, oi, none⟩ = some (.int .i64 p) := HLD.out w3 D3.out 0 _ rfl
        have f1 : w3.cell? ⟨nb, oi + 1, none⟩ = some (.int .i64 t) := HLD.out w3 D3.out 1 _ rfl
        have f2 : w3.cell? ⟨nb, oi + 2, none⟩ = some (.int .i64 a0) := HLD.out w3 D3.out 2 _ rfl
        have f3 : w3.cell? ⟨nb, oi + 3, none⟩ = some (.int .i64 a1) := HLD.out w3 D3.out 3 _ rfl
        have f4 : w3.cell? ⟨nb, oi + 4, none⟩ = some (.int .i64 a2) := HLD.out w3 D3.out 4 _ rfl
        have f5 : w3.cell? ⟨nb, oi + 5, none⟩ = some (.int .i64 b0) := HLD.out w3 D3.out 5 _ rfl
        have f6 : w3.cell? ⟨nb, oi + 6, none⟩ = some (.int .i64 b1) := HLD.out w3 D3.out 6 _ rfl
        have f7 : w3.cell? ⟨nb, oi + 7, none⟩ = some (.int .i64 b2) := HLD.out w3 D3.out 7 _ rfl
        have f8 : w3.cell? ⟨nb, oi + 8, none⟩ = some (.int .i64 c0) := HLD.out w3 D3.out 8 _ rfl
        have f9 : w3.cell? ⟨nb, oi + 9, none⟩ = some (.int .i64 c1) := HLD.out w3 D3.out 9 _ rfl
        have f10 : w3.cell? ⟨nb, oi + 10, none⟩ = some (.int .i64 c2) := HLD.out w3 D3.out 10 _ rfl
        go_wp2_with fail
        refine (C4.out _).mono ?_
        rintro er w4 ⟨rfl, b4⟩
        have D4 := Lib.hid (below_trans D3.out b4); have G4 := Lib.hid (below_trans G3.out b4)
        clear b4 f0 f1 f2 f3 f4 f5 f6 f7 f8 f9 f10
        cases m4
        · have hf := HBAD.out (OKK.out.trans (by simp : _ = false))
          subst hf
          go_wp2_with fail
          go_ret
          exact ⟨rfl, D4.out⟩
        · have HG := Lib.hid (HGOOD.out (OKK.out.trans (by simp : _ = true)))
          go_wp2_with fail
          go_roundw
          case rel => exact ⟨j + 1, rfl, by omega, by omega, HG.out, G4.out⟩
          case measure => simp [intOf]; omega
      · have HG := Lib.hid (HGOOD.out (OKK.out.trans (by simp : _ = true)))
        go_wp2_with fail
        go_roundw
        case rel => exact ⟨j + 1, rfl, by omega, by omega, HG.out, G3.out⟩
        case measure => simp [intOf]; omega
    · have hf := HY2.out (by rw [show zn = j by omega]; exact hd.out.1)
      subst hf
      have D2 := Lib.hid (below_trans B1.out hd.out.2)
      clear hd
      go_wp2_with fail
      go_ret
      exact ⟨rfl, D2.out⟩

end Go.Proofs.Ytmpmnehapildeaa

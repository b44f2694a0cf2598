/- The landed configuration: a tenant's amounts, all hosts. -/
import Derived.Test.YtmpmnehapildeaaKcB
import Derived.Test.YtmpmnehapildeaaCfgB
namespace Go.Proofs.Ytmpmnehapildeaa
open Go.RowKit
set_option linter.unusedVariables false

set_option maxRecDepth 8000 in
theorem kQuota (x : Nd) (w : World) : Calls Try.prog 26 #[.agg x.c] w (RetBelow (.bool (Cf.valid x.nom && Cf.valid x.bor && Cf.valid x.lend && Cf.fits x.lend x.nom)) w) := by
  obtain ⟨F, hF⟩ : ∃ f, (Cf.valid x.nom && Cf.valid x.bor && Cf.valid x.lend && Cf.fits x.lend x.nom) = f := ⟨_, rfl⟩
  obtain ⟨p, t, ⟨a0, a1, a2⟩, ⟨b0, b1, b2⟩, ⟨c0, c1, c2⟩⟩ := x
  simp only [Nd.c] at hF ⊢
  rw [hF]
  have v1 := fun w => kValid3 ⟨a0, a1, a2⟩ w
  have v2 := fun w => kValid3 ⟨b0, b1, b2⟩ w
  have v3 := fun w => kValid3 ⟨c0, c1, c2⟩ w
  have v4 := fun w => kFits3 ⟨c0, c1, c2⟩ ⟨a0, a1, a2⟩ w
  obtain ⟨r1, hr1⟩ : ∃ r, Cf.valid ⟨a0, a1, a2⟩ = r := ⟨_, rfl⟩
  obtain ⟨r2, hr2⟩ : ∃ r, Cf.valid ⟨b0, b1, b2⟩ = r := ⟨_, rfl⟩
  obtain ⟨r3, hr3⟩ : ∃ r, Cf.valid ⟨c0, c1, c2⟩ = r := ⟨_, rfl⟩
  obtain ⟨r4, hr4⟩ : ∃ r, Cf.fits ⟨c0, c1, c2⟩ ⟨a0, a1, a2⟩ = r := ⟨_, rfl⟩
  rw [hr1] at v1 hF
  rw [hr2] at v2 hF
  rw [hr3] at v3 hF
  rw [hr4] at v4 hF
  simp only at v1 v2 v3 v4
  have V1 := Lib.hid v1; have V2 := Lib.hid v2; have V3' := Lib.hid v3; have V4 := Lib.hid v4; have HF := Lib.hid hF.symm
  clear v1 v2 v3 v4 hF hr1 hr2 hr3 hr4
  have g4 : Below w.heap.size w (w.alloc (.cells #[.int .i64 p, .int .i64 t, .int .i64 a0, .int .i64 a1, .int .i64 a2, .int .i64 b0, .int .i64 b1, .int .i64 b2, .int .i64 c0, .int .i64 c1, .int .i64 c2] 35)) := (Below.refl _ _).alloc (Nat.le_refl _) _
  have G4 := Lib.hid g4
  have HN4 := Lib.hid (Holds.new w #[.int .i64 p, .int .i64 t, .int .i64 a0, .int .i64 a1, .int .i64 a2, .int .i64 b0, .int .i64 b1, .int .i64 b2, .int .i64 c0, .int .i64 c1, .int .i64 c2] 35)
  have L4 := Lib.hid (show w.heap.size < (w.alloc (.cells #[.int .i64 p, .int .i64 t, .int .i64 a0, .int .i64 a1, .int .i64 a2, .int .i64 b0, .int .i64 b1, .int .i64 b2, .int .i64 c0, .int .i64 c1, .int .i64 c2] 35)).heap.size by rw [World.size_alloc]; omega)
  clear g4
  go_enter Try.func26, Try.ntmps26
  go_wp2_with fail
  refine (V1.out _).mono ?_
  rintro er w5 ⟨rfl, b5⟩
  have G5 := Lib.hid (below_trans G4.out b5); have HN5 := Lib.hid (HN4.out.kept L4.out b5); have L5 := Lib.hid (Nat.lt_of_lt_of_le L4.out b5.size)
  clear b5
  cases r1
  · have hf := HF.out.trans (by simp : _ = false)
    subst hf
    go_wp2_with fail
    go_ret
    exact ⟨rfl, G5.out⟩
  have f5 : w5.cell? ⟨w.heap.size, 5, none⟩ = some (.int .i64 b0) := HN5.out 5 _ rfl
  have f6 : w5.cell? ⟨w.heap.size, 6, none⟩ = some (.int .i64 b1) := HN5.out 6 _ rfl
  have f7 : w5.cell? ⟨w.heap.size, 7, none⟩ = some (.int .i64 b2) := HN5.out 7 _ rfl
  go_wp2_with fail
  refine (V2.out _).mono ?_
  rintro er w6 ⟨rfl, b6⟩
  have G6 := Lib.hid (below_trans G5.out b6); have HN6 := Lib.hid (HN5.out.kept L5.out b6); have L6 := Lib.hid (Nat.lt_of_lt_of_le L5.out b6.size)
  clear b6
  clear f5 f6 f7
  cases r2
  · have hf := HF.out.trans (by simp : _ = false)
    subst hf
    go_wp2_with fail
    go_ret
    exact ⟨rfl, G6.out⟩
  have f8 : w6.cell? ⟨w.heap.size, 8, none⟩ = some (.int .i64 c0) := HN6.out 8 _ rfl
  have f9 : w6.cell? ⟨w.heap.size, 9, none⟩ = some (.int .i64 c1) := HN6.out 9 _ rfl
  have f10 : w6.cell? ⟨w.heap.size, 10, none⟩ = some (.int .i64 c2) := HN6.out 10 _ rfl
  go_wp2_with fail
  refine (V3'.out _).mono ?_
  rintro er w7 ⟨rfl, b7⟩
  have G7 := Lib.hid (below_trans G6.out b7); have HN7 := Lib.hid (HN6.out.kept L6.out b7); have L7 := Lib.hid (Nat.lt_of_lt_of_le L6.out b7.size)
  clear b7
  clear f8 f9 f10
  cases r3
  · have hf := HF.out.trans (by simp : _ = false)
    subst hf
    go_wp2_with fail
    go_ret
    exact ⟨rfl, G7.out⟩
  have f2 : w7.cell? ⟨w.heap.size, 2, none⟩ = some (.int .i64 a0) := HN7.out 2 _ rfl
  have f3 : w7.cell? ⟨w.heap.size, 3, none⟩ = some (.int .i64 a1) := HN7.out 3 _ rfl
  have f4 : w7.cell? ⟨w.heap.size, 4, none⟩ = some (.int .i64 a2) := HN7.out 4 _ rfl
  have f8 : w7.cell? ⟨w.heap.size, 8, none⟩ = some (.int .i64 c0) := HN7.out 8 _ rfl
  have f9 : w7.cell? ⟨w.heap.size, 9, none⟩ = some (.int .i64 c1) := HN7.out 9 _ rfl
  have f10 : w7.cell? ⟨w.heap.size, 10, none⟩ = some (.int .i64 c2) := HN7.out 10 _ rfl
  have hf := HF.out.trans (by simp : _ = r4)
  subst hf
  go_wp2_with fail
  refine (V4.out _).mono ?_
  rintro er w8 ⟨rfl, b8⟩
  have G8 := Lib.hid (below_trans G7.out b8)
  clear b8
  clear f2 f3 f4 f8 f9 f10
  go_wp2_with fail
  go_ret
  exact ⟨rfl, G8.out⟩

set_option maxHeartbeats 1000000 in
set_option maxRecDepth 8000 in
theorem kHosts (hs : List Hs) (ah : Option Addr) (ch hb ho : Nat) (w : World) (hH : Sl Hs.c 23 6 w ah ch hb ho hs) :
    Calls Try.prog 16 #[.slice ah hs.length ch] w (RetBelow (.bool (decide (1 ≤ hs.length ∧ hs.length ≤ 24) && hs.all Cf.okHost)) w) := by
  obtain ⟨F, hF⟩ : ∃ f, (decide (1 ≤ hs.length ∧ hs.length ≤ 24) && hs.all Cf.okHost) = f := ⟨_, rfl⟩
  have hout : ¬ (1 ≤ (hs.length : Int) ∧ (hs.length : Int) ≤ 24) → F = false := fun h => by rw [← hF, decide_eq_false (by omega)]; rfl
  have hyes : (1 ≤ (hs.length : Int) ∧ (hs.length : Int) ≤ 24) → hs.all Cf.okHost = true → F = true := fun h h2 => by rw [← hF, decide_eq_true (by omega), h2]; rfl
  have hbad0 : ∀ (k : Nat) x, hs[k]? = some x → Cf.okHost x = false → F = false := fun k x hx h => by
    rw [← hF, Bool.and_eq_false_iff]
    right
    rw [List.all_eq_false]
    exact ⟨x, List.mem_of_getElem? hx, by rw [h]; simp⟩
  rw [hF]
  have hHi := hH.idx
  have h63 := hH.small
  obtain ⟨hl, hhl⟩ : ∃ n, hs.length = n := ⟨_, rfl⟩
  rw [hhl] at hHi h63 hout hyes ⊢
  obtain ⟨zh, hzh⟩ : ∃ z : Int, (hl : Int) = z := ⟨_, rfl⟩
  rw [hzh] at hout hyes
  have hw := fun w => kWithin zh 1 24 w
  have HHI := Lib.hid hHi; have HH := Lib.hid hH; have HL := Lib.hid hhl; have HO := Lib.hid hout; have HY := Lib.hid hyes; have HB0 := Lib.hid hbad0
  clear hHi hH hhl hout hyes hbad0 hF
  by_cases h1 : 1 ≤ zh ∧ zh ≤ 24
  case neg =>
    have hf := HO.out h1
    subst hf
    rw [decide_eq_false h1] at hw
    have WI := Lib.hid hw
    clear hw h1
    go_enter Try.func16, Try.ntmps16
    go_wp2_with fail
    refine (WI.out _).mono ?_
    rintro er w2 ⟨rfl, rfl⟩
    go_wp2_with fail
    go_ret
    exact ⟨rfl, Below.refl _ _⟩
  have HY2 := Lib.hid (HY.out h1)
  rw [decide_eq_true h1] at hw
  have WI := Lib.hid hw
  clear hw HY HO
  go_enter Try.func16, Try.ntmps16
  go_wp2_with fail
  refine (WI.out _).mono ?_
  rintro er w2 ⟨rfl, rfl⟩
  go_wp2_with fail
  go_loopw [11] (fun i wr => ∃ (j : Int), i = .int .i64 j ∧ 0 ≤ j ∧ j ≤ zh ∧ Hid (Upto Cf.okHost hs j ∧ Below w.heap.size w wr)) (fun i _ => (zh - intOf i).toNat)
  case atStart => exact ⟨0, rfl, by omega, by omega, Upto.zero _ _, Below.refl _ _⟩
  case round =>
    obtain ⟨j, rfl, hj0, hjz, hd⟩ := hrel
    by_cases hlt : j < zh
    · obtain ⟨x, hx⟩ : ∃ x, hs[j.toNat]? = some x := ⟨_, List.getElem?_eq_getElem (by have := HL.out; omega)⟩
      have hi := HHI.out j.toNat (by omega)
      rw [show ((j.toNat : Nat) : Int) = j by omega] at hi
      have hr := (HH.out.kept hd.out.2).at_ j.toNat x hx
      have hoh : Cf.okHost x = (decide (0 ≤ x.fl ∧ x.fl ≤ 100) && decide (0 ≤ x.bl ∧ x.bl ≤ 100) && decide (0 ≤ x.ra ∧ x.ra ≤ 100) && Cf.valid x.cap) := rfl
      have hbad := HB0.out j.toNat x hx
      have hgood := fun h => hd.out.1.succ hj0 hx h
      have hm1 := fun w => kMark x.fl w
      have hm2 := fun w => kMark x.bl w
      have hm3 := fun w => kMark x.ra w
      obtain ⟨OK, hOK⟩ : ∃ b, Cf.okHost x = b := ⟨_, rfl⟩
      rw [hOK] at hoh hbad hgood
      obtain ⟨m1, hm1e⟩ : ∃ b, decide (0 ≤ x.fl ∧ x.fl ≤ 100) = b := ⟨_, rfl⟩
      obtain ⟨m2, hm2e⟩ : ∃ b, decide (0 ≤ x.bl ∧ x.bl ≤ 100) = b := ⟨_, rfl⟩
      obtain ⟨m3, hm3e⟩ : ∃ b, decide (0 ≤ x.ra ∧ x.ra ≤ 100) = b := ⟨_, rfl⟩
      rw [hm1e] at hm1 hoh
      rw [hm2e] at hm2 hoh
      rw [hm3e] at hm3 hoh
      obtain ⟨f, l, r, ⟨a0, a1, a2⟩⟩ := x
      simp only [Hs.c] at hr hoh hm1 hm2 hm3
      obtain ⟨V, hV⟩ : ∃ b, Cf.valid ⟨a0, a1, a2⟩ = b := ⟨_, rfl⟩
      have hvc := fun w => kValid3 ⟨a0, a1, a2⟩ w
      rw [hV] at hoh hvc
      simp only at hvc
      have HOH := Lib.hid hoh; have HBAD := Lib.hid hbad; have HGOOD := Lib.hid hgood; have HVC := Lib.hid hvc; have HR := Lib.hid hr
      have M1 := Lib.hid hm1; have M2 := Lib.hid hm2; have M3 := Lib.hid hm3
      clear hoh hbad hgood hvc hr hx hOK hV hm1 hm2 hm3 hm1e hm2e hm3e
      obtain ⟨oi, hoi⟩ : ∃ n, ho + j.toNat * 6 = n := ⟨_, rfl⟩
      rw [hoi] at hi HR
      clear hoi
      have G2 := Lib.hid (hd.out.2.alloc hd.out.2.size (.cells #[.int .i64 f, .int .i64 l, .int .i64 r, .int .i64 a0, .int .i64 a1, .int .i64 a2] 44))
      have HC := Lib.hid (Holds.new wr #[.int .i64 f, .int .i64 l, .int .i64 r, .int .i64 a0, .int .i64 a1, .int .i64 a2] 44)
      go_upto_region 6 with (first | (refine wpList_load_mid rfl 44 _ rfl hb oi rfl _ _ HR.out Try.underlying44 rfl host_len ?_) | fail)
      obtain ⟨WW, hWW⟩ : ∃ W, wr.alloc (.cells #[.int .i64 f, .int .i64 l, .int .i64 r, .int .i64 a0, .int .i64 a1, .int .i64 a2] 44) = W := ⟨_, rfl⟩
      rw [hWW] at G2 HC ⊢
      clear hWW
      have f0 : WW.cell? ⟨wr.heap.size, 0, none⟩ = some (.int .i64 f) := HC.out 0 _ rfl
      have f1 : WW.cell? ⟨wr.heap.size, 1, none⟩ = some (.int .i64 l) := HC.out 1 _ rfl
      have f2 : WW.cell? ⟨wr.heap.size, 2, none⟩ = some (.int .i64 r) := HC.out 2 _ rfl
      have f3 : WW.cell? ⟨wr.heap.size, 3, none⟩ = some (.int .i64 a0) := HC.out 3 _ rfl
      have f4 : WW.cell? ⟨wr.heap.size, 4, none⟩ = some (.int .i64 a1) := HC.out 4 _ rfl
      have f5 : WW.cell? ⟨wr.heap.size, 5, none⟩ = some (.int .i64 a2) := HC.out 5 _ rfl
      go_wp2_with fail
      refine (M1.out _).mono ?_
      rintro er w2 ⟨rfl, rfl⟩
      cases m1
      · have hf := HBAD.out (HOH.out.trans (by simp : _ = false))
        subst hf
        go_wp2_with fail
        go_ret
        exact ⟨rfl, G2.out⟩
      go_wp2_with fail
      refine (M2.out _).mono ?_
      rintro er w2 ⟨rfl, rfl⟩
      cases m2
      · have hf := HBAD.out (HOH.out.trans (by simp : _ = false))
        subst hf
        go_wp2_with fail
        go_ret
        exact ⟨rfl, G2.out⟩
      go_wp2_with fail
      refine (M3.out _).mono ?_
      rintro er w2 ⟨rfl, rfl⟩
      cases m3
      · have hf := HBAD.out (HOH.out.trans (by simp : _ = false))
        subst hf
        go_wp2_with fail
        go_ret
        exact ⟨rfl, G2.out⟩
      go_wp2_with fail
      refine (HVC.out _).mono ?_
      rintro er w2 ⟨rfl, b2⟩
      have B2 := Lib.hid (below_trans G2.out b2)
      clear b2 f0 f1 f2 f3 f4 f5
      cases V
      · have hf := HBAD.out (HOH.out.trans (by simp : _ = false))
        subst hf
        go_wp2_with fail
        go_ret
        exact ⟨rfl, B2.out⟩
      · have hg := HGOOD.out (HOH.out.trans (by simp : _ = true))
        have HG := Lib.hid hg; clear hg
        go_wp2_with fail
        go_roundw
        case rel => exact ⟨j + 1, rfl, by omega, by omega, HG.out, B2.out⟩
        case measure => simp [intOf]; omega
    · have hf := HY2.out (hd.out.1.all (by have := HL.out; omega))
      subst hf
      go_wp2_with fail
      go_ret
      exact ⟨rfl, hd.out.2⟩

end Go.Proofs.Ytmpmnehapildeaa

/- Configurations: the plain answer's Leaf, node. -/
import Derived.Test.YtkaikekibmgmmaaGd
import Derived.Deep.CutBlock
namespace Go.Proofs.Ytkaikekibmgmmaa
open Go.RowKit
set_option linter.unusedVariables false

set_option maxHeartbeats 1000000 in
theorem rLeaf_any (ns : List Nd) (an ah : Option Addr) (cn nb no hl ch : Nat) (ha ag n : Int) (w : World) (hN : Sl Nd.c 22 11 w an cn nb no ns) :
    Calls Try.prog 33 #[.agg #[.slice an ns.length cn, .slice ah hl ch, .int .i64 ha, .int .i64 ag], .int .i64 n] w (RetBelow (.bool (Cf.leaf ns n)) w) := by
  obtain ⟨F, hF⟩ : ∃ f, Cf.leaf ns n = f := ⟨_, rfl⟩
  have hout : ¬ (0 ≤ n ∧ n < ns.length) → F = false := fun h => by rw [← hF, Cf.leaf, decide_eq_false h]; rfl
  have hno : ∀ (k : Nat) x, ns[k]? = some x → x.par = n → F = false := fun k x hx e => by rw [← hF, ← e]; exact Cf.leaf_par hx
  have hyes : 0 ≤ n ∧ n < ns.length → Upto (fun x => decide (x.par ≠ n)) ns (ns.length : Int) → F = true := fun h u => by
    rw [← hF, Cf.leaf, decide_eq_true h, u.all (Int.le_refl _)]; rfl
  rw [hF]
  have hNi := hN.idx
  have n63 := hN.small
  obtain ⟨nl, hnl⟩ : ∃ n, ns.length = n := ⟨_, rfl⟩
  rw [hnl] at hNi n63 hout hyes ⊢
  obtain ⟨zn, hzn⟩ : ∃ z : Int, (nl : Int) = z := ⟨_, rfl⟩
  rw [hzn] at hout hyes
  have HNI := Lib.hid hNi; have HN := Lib.hid hN; have HL := Lib.hid hnl; have HO := Lib.hid hout; have HNO := Lib.hid hno; have HY := Lib.hid hyes
  clear hNi hN hnl hout hno hyes hF
  have gW : Below w.heap.size w (w.alloc (.cells #[.slice an nl cn, .slice ah hl ch, .int .i64 ha, .int .i64 ag] 25)) := (Below.refl _ _).alloc (Nat.le_refl _) _
  have h0 : (w.alloc (.cells #[.slice an nl cn, .slice ah hl ch, .int .i64 ha, .int .i64 ag] 25)).cell? ⟨w.heap.size, 0, none⟩ = some (.slice an nl cn) := (World.cell?_alloc_at (w := w) _ _ _ 0 rfl)
  by_cases n0 : n < 0
  · have hf := HO.out (by omega)
    subst hf
    go_enter Try.func33, Try.ntmps33
    go_wp2_with fail
    go_ret
    exact ⟨rfl, gW⟩
  by_cases n1 : zn ≤ n
  · have hf := HO.out (by omega)
    subst hf
    go_enter Try.func33, Try.ntmps33
    go_wp2_with fail
    go_ret
    exact ⟨rfl, gW⟩
  go_enter Try.func33, Try.ntmps33
  go_wp2_with fail
  obtain ⟨W, hW⟩ : ∃ W, (w.alloc (.cells #[.slice an nl cn, .slice ah hl ch, .int .i64 ha, .int .i64 ag] 25)) = W := ⟨_, rfl⟩
  rw [hW] at gW h0 ⊢
  have GW := Lib.hid gW
  clear hW gW
  go_loop [5] (fun i => ∃ (j : Int), i = .int .i64 j ∧ 0 ≤ j ∧ j ≤ zn ∧ Hid (Upto (fun x => decide (x.par ≠ n)) ns j)) (fun i => (zn - intOf i).toNat)
  case atStart => exact ⟨0, rfl, by omega, by omega, Upto.zero _ _⟩
  case round =>
    obtain ⟨j, rfl, hj0, hjz, hd⟩ := hrel
    by_cases hlt : j < zn
    · obtain ⟨x, hx⟩ : ∃ x, ns[j.toNat]? = some x := ⟨_, List.getElem?_eq_getElem (by have := HL.out; omega)⟩
      have hi := HNI.out j.toNat (by omega)
      rw [show ((j.toNat : Nat) : Int) = j by omega] at hi
      have hr : W.cell? ⟨nb, no + j.toNat * 11, none⟩ = some (.int .i64 x.par) := (HN.out.kept GW.out).at_ j.toNat x hx 0 _ rfl
      obtain ⟨oi, hoi⟩ : ∃ n, no + j.toNat * 11 = n := ⟨_, rfl⟩
      rw [hoi] at hi hr
      have HX := Lib.hid hx
      obtain ⟨pr, hpr⟩ : ∃ p, x.par = p := ⟨_, rfl⟩
      rw [hpr] at hr
      have HPR := Lib.hid hpr
      clear hoi hx hpr
      by_cases he : pr = n
      · have hf := HNO.out _ _ HX.out (HPR.out.trans he)
        subst hf
        subst he
        go_wp2_with fail
        go_ret
        exact ⟨rfl, GW.out⟩
      · have he' : (pr == n) = false := by simpa using he
        go_wp2_with fail
        go_round
        case rel => exact ⟨j + 1, rfl, by omega, by omega, hd.out.succ hj0 HX.out (decide_eq_true (by rw [HPR.out]; exact he))⟩
        case measure => simp [intOf]; omega
    · have hf := HY.out (by omega) (by rw [show zn = j by omega]; exact hd.out)
      subst hf
      go_wp2_with fail
      go_ret
      exact ⟨rfl, GW.out⟩

set_option maxHeartbeats 2000000 in
set_option maxRecDepth 8000 in
theorem rNode_any (ns : List Nd) (an ah : Option Addr) (cn nb no hl ch : Nat) (ha ag i : Int) (x : Nd) (w : World) (hN : Sl Nd.c 22 11 w an cn nb no ns) (hi0 : 0 ≤ i) (hx : ns[i.toNat]? = some x) :
    Calls Try.prog 25 #[.agg #[.slice an ns.length cn, .slice ah hl ch, .int .i64 ha, .int .i64 ag], .int .i64 i] w (RetBelow (.bool (Cf.okNode ns i x)) w) := by
  have hlen : i.toNat < ns.length := by
    rcases Nat.lt_or_ge i.toNat ns.length with q | q
    · exact q
    · rw [List.getElem?_eq_none q] at hx; cases hx
  have hleaf := fun w2 (g : Below w.heap.size w w2) => rLeaf_any ns an ah cn nb no hl ch ha ag i w2 (hN.kept g)
  have hidx := hN.idx i.toNat hlen
  rw [show ((i.toNat : Nat) : Int) = i by omega] at hidx
  have hr := fun w2 (g : Below w.heap.size w w2) => (hN.kept g).at_ i.toNat x hx
  have n63 := hN.small
  obtain ⟨L, hL⟩ : ∃ f, Cf.leaf ns i = f := ⟨_, rfl⟩
  obtain ⟨F, hF⟩ : ∃ f, Cf.okNode ns i x = f := ⟨_, rfl⟩
  have hok : F = (Cf.place i x && (if L = true then Cf.valid x.nom && Cf.valid x.bor && Cf.valid x.lend && Cf.fits x.lend x.nom else decide (x.nom = Cf.z3) && decide (x.bor = Cf.z3) && decide (x.lend = Cf.z3))) := by rw [← hF, ← hL]; rfl
  have hpl : Cf.place i x = !(decide (i = 0 ∧ x.par ≠ -1) || decide (0 < i ∧ (x.par < 0 ∨ i ≤ x.par)) || decide (x.wt < 1) || decide (1000 < x.wt)) := rfl
  rw [hF]
  simp only [hL] at hleaf
  obtain ⟨nl, hnl⟩ : ∃ n, ns.length = n := ⟨_, rfl⟩
  rw [hnl] at hidx hleaf n63 ⊢
  obtain ⟨p, t, ⟨a0, a1, a2⟩, ⟨b0, b1, b2⟩, ⟨c0, c1, c2⟩⟩ := x
  simp only [Nd.c] at hr hok hpl
  obtain ⟨PL, hPL⟩ : ∃ b, Cf.place i ⟨p, t, ⟨a0, a1, a2⟩, ⟨b0, b1, b2⟩, ⟨c0, c1, c2⟩⟩ = b := ⟨_, rfl⟩
  rw [hPL] at hok hpl
  clear hPL
  have q1 := fun w => vec_eql w a0 a1 a2 0 0 0
  have q2 := fun w => vec_eql w b0 b1 b2 0 0 0
  have q3 := fun w => vec_eql w c0 c1 c2 0 0 0
  have qg := fun w (x y : Operand) (xs ys : Array Value) => vec_guard w .eql x y xs ys
  have d1 : decide ((⟨a0, a1, a2⟩ : V3) = Cf.z3) = (a0 == 0 && (a1 == 0 && a2 == 0)) := by rw [Bool.eq_iff_iff]; simp [V3.eq_iff, Cf.z3]
  have d2 : decide ((⟨b0, b1, b2⟩ : V3) = Cf.z3) = (b0 == 0 && (b1 == 0 && b2 == 0)) := by rw [Bool.eq_iff_iff]; simp [V3.eq_iff, Cf.z3]
  have d3 : decide ((⟨c0, c1, c2⟩ : V3) = Cf.z3) = (c0 == 0 && (c1 == 0 && c2 == 0)) := by rw [Bool.eq_iff_iff]; simp [V3.eq_iff, Cf.z3]
  rw [d1, d2, d3] at hok
  obtain ⟨e1, he1⟩ : ∃ e, (a0 == 0 && (a1 == 0 && a2 == 0)) = e := ⟨_, rfl⟩
  obtain ⟨e2, he2⟩ : ∃ e, (b0 == 0 && (b1 == 0 && b2 == 0)) = e := ⟨_, rfl⟩
  obtain ⟨e3, he3⟩ : ∃ e, (c0 == 0 && (c1 == 0 && c2 == 0)) = e := ⟨_, rfl⟩
  rw [he1] at q1 hok
  rw [he2] at q2 hok
  rw [he3] at q3 hok
  clear d1 d2 d3 he1 he2 he3
  have v1 := fun w => rValid3 ⟨a0, a1, a2⟩ w
  have v2 := fun w => rValid3 ⟨b0, b1, b2⟩ w
  have v3 := fun w => rValid3 ⟨c0, c1, c2⟩ w
  have v4 := fun w => rFits3 ⟨c0, c1, c2⟩ ⟨a0, a1, a2⟩ w
  obtain ⟨r1, hr1⟩ : ∃ r, Cf.valid ⟨a0, a1, a2⟩ = r := ⟨_, rfl⟩
  obtain ⟨r2, hr2⟩ : ∃ r, Cf.valid ⟨b0, b1, b2⟩ = r := ⟨_, rfl⟩
  obtain ⟨r3, hr3⟩ : ∃ r, Cf.valid ⟨c0, c1, c2⟩ = r := ⟨_, rfl⟩
  obtain ⟨r4, hr4⟩ : ∃ r, Cf.fits ⟨c0, c1, c2⟩ ⟨a0, a1, a2⟩ = r := ⟨_, rfl⟩
  rw [hr1] at v1 hok
  rw [hr2] at v2 hok
  rw [hr3] at v3 hok
  rw [hr4] at v4 hok
  simp only at v1 v2 v3 v4
  have HLEAF := Lib.hid hleaf; have HIDX := Lib.hid hidx; have HR := Lib.hid hr; have HOK := Lib.hid hok; have HPL := Lib.hid hpl
  have V1 := Lib.hid v1; have V2 := Lib.hid v2; have V3' := Lib.hid v3; have V4 := Lib.hid v4
  clear hleaf hidx hr hok hpl v1 v2 v3 v4 hF hL hr1 hr2 hr3 hr4 hN hx hlen hnl
  have g1 : Below w.heap.size w (w.alloc (.cells #[.slice an nl cn, .slice ah hl ch, .int .i64 ha, .int .i64 ag] 25)) := (Below.refl _ _).alloc (Nat.le_refl _) _
  have hi := HIDX.out
  have hr1 := HR.out _ g1
  obtain ⟨oi, hoi⟩ : ∃ n, no + i.toNat * 11 = n := ⟨_, rfl⟩
  rw [hoi] at hi hr1
  have HR1 := Lib.hid hr1
  have g2 : Below w.heap.size w ((w.alloc (.cells #[.slice an nl cn, .slice ah hl ch, .int .i64 ha, .int .i64 ag] 25)).alloc (.cells #[.int .i64 p, .int .i64 t, .int .i64 a0, .int .i64 a1, .int .i64 a2, .int .i64 b0, .int .i64 b1, .int .i64 b2, .int .i64 c0, .int .i64 c1, .int .i64 c2] 60)) := g1.alloc (by simp) _
  have G2 := Lib.hid g2
  clear hr1 hoi g1 g2
  by_cases i0 : i = 0
  · subst i0
    by_cases pm : p = -1
    · subst pm
      by_cases w0 : t < 1
      · have hp := HPL.out.trans (by rw [Bool.not_eq_false']; simp only [Bool.or_eq_true, decide_eq_true_eq]; omega : _ = false)
        have hf := HOK.out.trans (by rw [hp, Bool.false_and] : _ = false)
        subst hf
        go_enter Try.func25, Try.ntmps25
        go_upto_region 2 with (first | (refine wpList_load_mid rfl 60 _ rfl nb oi rfl _ _ HR1.out Try.underlying60 rfl node_len ?_) | fail)
        go_wp2_with fail
        go_ret
        exact ⟨rfl, G2.out⟩
      by_cases w1 : 1000 < t
      · have hp := HPL.out.trans (by rw [Bool.not_eq_false']; simp only [Bool.or_eq_true, decide_eq_true_eq]; omega : _ = false)
        have hf := HOK.out.trans (by rw [hp, Bool.false_and] : _ = false)
        subst hf
        go_enter Try.func25, Try.ntmps25
        go_upto_region 2 with (first | (refine wpList_load_mid rfl 60 _ rfl nb oi rfl _ _ HR1.out Try.underlying60 rfl node_len ?_) | fail)
        go_wp2_with fail
        go_ret
        exact ⟨rfl, G2.out⟩
      have hp := HPL.out.trans (by rw [Bool.not_eq_true']; simp only [Bool.or_eq_false_iff, decide_eq_false_iff_not]; omega : _ = true)
      have hok := HOK.out
      rw [hp, Bool.true_and] at hok
      have HOK2 := Lib.hid hok
      clear hok hp
      have g3 : Below w.heap.size w (((w.alloc (.cells #[.slice an nl cn, .slice ah hl ch, .int .i64 ha, .int .i64 ag] 25)).alloc (.cells #[.int .i64 (-1), .int .i64 t, .int .i64 a0, .int .i64 a1, .int .i64 a2, .int .i64 b0, .int .i64 b1, .int .i64 b2, .int .i64 c0, .int .i64 c1, .int .i64 c2] 60)).alloc (.cells #[.int .i64 0, .int .i64 0, .int .i64 0] 35)) := G2.out.alloc G2.out.size _
      have G3 := Lib.hid g3
      have hn3 : Holds (((w.alloc (.cells #[.slice an nl cn, .slice ah hl ch, .int .i64 ha, .int .i64 ag] 25)).alloc (.cells #[.int .i64 (-1), .int .i64 t, .int .i64 a0, .int .i64 a1, .int .i64 a2, .int .i64 b0, .int .i64 b1, .int .i64 b2, .int .i64 c0, .int .i64 c1, .int .i64 c2] 60)).alloc (.cells #[.int .i64 0, .int .i64 0, .int .i64 0] 35)) (w.heap.size + 1) #[.int .i64 (-1), .int .i64 t, .int .i64 a0, .int .i64 a1, .int .i64 a2, .int .i64 b0, .int .i64 b1, .int .i64 b2, .int .i64 c0, .int .i64 c1, .int .i64 c2] := by
        have h := (Holds.new (w.alloc (.cells #[.slice an nl cn, .slice ah hl ch, .int .i64 ha, .int .i64 ag] 25)) #[.int .i64 (-1), .int .i64 t, .int .i64 a0, .int .i64 a1, .int .i64 a2, .int .i64 b0, .int .i64 b1, .int .i64 b2, .int .i64 c0, .int .i64 c1, .int .i64 c2] 60).kept (Nat.lt_of_lt_of_le (Nat.lt_succ_self _) (Nat.le_of_eq (World.size_alloc _ _).symm)) ((Below.refl _ _).alloc (Nat.le_refl _) (.cells #[.int .i64 0, .int .i64 0, .int .i64 0] 35))
        rwa [World.size_alloc] at h
      have hz3 : Holds (((w.alloc (.cells #[.slice an nl cn, .slice ah hl ch, .int .i64 ha, .int .i64 ag] 25)).alloc (.cells #[.int .i64 (-1), .int .i64 t, .int .i64 a0, .int .i64 a1, .int .i64 a2, .int .i64 b0, .int .i64 b1, .int .i64 b2, .int .i64 c0, .int .i64 c1, .int .i64 c2] 60)).alloc (.cells #[.int .i64 0, .int .i64 0, .int .i64 0] 35)) (w.heap.size + 2) #[.int .i64 0, .int .i64 0, .int .i64 0] := by
        have h := Holds.new ((w.alloc (.cells #[.slice an nl cn, .slice ah hl ch, .int .i64 ha, .int .i64 ag] 25)).alloc (.cells #[.int .i64 (-1), .int .i64 t, .int .i64 a0, .int .i64 a1, .int .i64 a2, .int .i64 b0, .int .i64 b1, .int .i64 b2, .int .i64 c0, .int .i64 c1, .int .i64 c2] 60)) #[.int .i64 0, .int .i64 0, .int .i64 0] 35
        rwa [World.size_alloc, World.size_alloc] at h
      have l3 : w.heap.size + 2 < (((w.alloc (.cells #[.slice an nl cn, .slice ah hl ch, .int .i64 ha, .int .i64 ag] 25)).alloc (.cells #[.int .i64 (-1), .int .i64 t, .int .i64 a0, .int .i64 a1, .int .i64 a2, .int .i64 b0, .int .i64 b1, .int .i64 b2, .int .i64 c0, .int .i64 c1, .int .i64 c2] 60)).alloc (.cells #[.int .i64 0, .int .i64 0, .int .i64 0] 35)).heap.size := by rw [World.size_alloc, World.size_alloc, World.size_alloc]; omega
      have HN3 := Lib.hid hn3; have HZ3 := Lib.hid hz3; have L3 := Lib.hid l3
      clear g3 hn3 hz3 l3
      go_enter Try.func25, Try.ntmps25
      go_upto_region 2 with (first | (refine wpList_load_mid rfl 60 _ rfl nb oi rfl _ _ HR1.out Try.underlying60 rfl node_len ?_) | fail)
      go_wp2_with fail
      refine (HLEAF.out _ G3.out).mono ?_
      rintro er w4 ⟨rfl, b4⟩
      have G4 := Lib.hid (below_trans G3.out b4); have HN4 := Lib.hid (HN3.out.kept (by have := L3.out; omega) b4); have HZ4 := Lib.hid (HZ3.out.kept L3.out b4); have L4 := Lib.hid (Nat.lt_of_lt_of_le L3.out b4.size)
      clear b4
      cases L
      · have hok := HOK2.out
        rw [if_neg (by simp)] at hok
        have HOK3 := Lib.hid hok
        clear hok
        have f0 : w4.cell? ⟨w.heap.size + 1, 0, none⟩ = some (.int .i64 (-1)) := HN4.out 0 _ rfl
        have f1 : w4.cell? ⟨w.heap.size + 1, 1, none⟩ = some (.int .i64 t) := HN4.out 1 _ rfl
        have f2 : w4.cell? ⟨w.heap.size + 1, 2, none⟩ = some (.int .i64 a0) := HN4.out 2 _ rfl
        have f3 : w4.cell? ⟨w.heap.size + 1, 3, none⟩ = some (.int .i64 a1) := HN4.out 3 _ rfl
        have f4 : w4.cell? ⟨w.heap.size + 1, 4, none⟩ = some (.int .i64 a2) := HN4.out 4 _ rfl
        have f5 : w4.cell? ⟨w.heap.size + 1, 5, none⟩ = some (.int .i64 b0) := HN4.out 5 _ rfl
        have f6 : w4.cell? ⟨w.heap.size + 1, 6, none⟩ = some (.int .i64 b1) := HN4.out 6 _ rfl
        have f7 : w4.cell? ⟨w.heap.size + 1, 7, none⟩ = some (.int .i64 b2) := HN4.out 7 _ rfl
        have f8 : w4.cell? ⟨w.heap.size + 1, 8, none⟩ = some (.int .i64 c0) := HN4.out 8 _ rfl
        have f9 : w4.cell? ⟨w.heap.size + 1, 9, none⟩ = some (.int .i64 c1) := HN4.out 9 _ rfl
        have f10 : w4.cell? ⟨w.heap.size + 1, 10, none⟩ = some (.int .i64 c2) := HN4.out 10 _ rfl
        have z0 : w4.cell? ⟨w.heap.size + 2, 0, none⟩ = some (.int .i64 0) := HZ4.out 0 _ rfl
        have z1 : w4.cell? ⟨w.heap.size + 2, 1, none⟩ = some (.int .i64 0) := HZ4.out 1 _ rfl
        have z2 : w4.cell? ⟨w.heap.size + 2, 2, none⟩ = some (.int .i64 0) := HZ4.out 2 _ rfl
        cases e1
        · have hf := HOK3.out.trans (by rfl : _ = false)
          subst hf
          go_wp2_with fail
          go_ret
          exact ⟨rfl, G4.out⟩
        cases e2
        · have hf := HOK3.out.trans (by rfl : _ = false)
          subst hf
          go_wp2_with fail
          go_ret
          exact ⟨rfl, G4.out⟩
        have hf := HOK3.out.trans (by rfl : _ = e3)
        subst hf
        go_wp2_with fail
        go_ret
        exact ⟨rfl, G4.out⟩
      have hok := HOK2.out
      rw [if_pos rfl] at hok
      have HOK3 := Lib.hid hok
      clear hok
      have f0 : w4.cell? ⟨w.heap.size + 1, 0, none⟩ = some (.int .i64 (-1)) := HN4.out 0 _ rfl
      have f1 : w4.cell? ⟨w.heap.size + 1, 1, none⟩ = some (.int .i64 t) := HN4.out 1 _ rfl
      have f2 : w4.cell? ⟨w.heap.size + 1, 2, none⟩ = some (.int .i64 a0) := HN4.out 2 _ rfl
      have f3 : w4.cell? ⟨w.heap.size + 1, 3, none⟩ = some (.int .i64 a1) := HN4.out 3 _ rfl
      have f4 : w4.cell? ⟨w.heap.size + 1, 4, none⟩ = some (.int .i64 a2) := HN4.out 4 _ rfl
      have f5 : w4.cell? ⟨w.heap.size + 1, 5, none⟩ = some (.int .i64 b0) := HN4.out 5 _ rfl
      have f6 : w4.cell? ⟨w.heap.size + 1, 6, none⟩ = some (.int .i64 b1) := HN4.out 6 _ rfl
      have f7 : w4.cell? ⟨w.heap.size + 1, 7, none⟩ = some (.int .i64 b2) := HN4.out 7 _ rfl
      have f8 : w4.cell? ⟨w.heap.size + 1, 8, none⟩ = some (.int .i64 c0) := HN4.out 8 _ rfl
      have f9 : w4.cell? ⟨w.heap.size + 1, 9, none⟩ = some (.int .i64 c1) := HN4.out 9 _ rfl
      have f10 : w4.cell? ⟨w.heap.size + 1, 10, none⟩ = some (.int .i64 c2) := HN4.out 10 _ rfl
      go_wp2_with fail
      refine (V1.out _).mono ?_
      rintro er w5 ⟨rfl, b5⟩
      have G5 := Lib.hid (below_trans G4.out b5); have HN5 := Lib.hid (HN4.out.kept (by have := L4.out; omega) b5); have L5 := Lib.hid (Nat.lt_of_lt_of_le L4.out b5.size)
      clear b5
      clear f0 f1 f2 f3 f4 f5 f6 f7 f8 f9 f10
      cases r1
      · have hf := HOK3.out.trans (by simp : _ = false)
        subst hf
        go_wp2_with fail
        go_ret
        exact ⟨rfl, G5.out⟩
      have f0 : w5.cell? ⟨w.heap.size + 1, 0, none⟩ = some (.int .i64 (-1)) := HN5.out 0 _ rfl
      have f1 : w5.cell? ⟨w.heap.size + 1, 1, none⟩ = some (.int .i64 t) := HN5.out 1 _ rfl
      have f2 : w5.cell? ⟨w.heap.size + 1, 2, none⟩ = some (.int .i64 a0) := HN5.out 2 _ rfl
      have f3 : w5.cell? ⟨w.heap.size + 1, 3, none⟩ = some (.int .i64 a1) := HN5.out 3 _ rfl
      have f4 : w5.cell? ⟨w.heap.size + 1, 4, none⟩ = some (.int .i64 a2) := HN5.out 4 _ rfl
      have f5 : w5.cell? ⟨w.heap.size + 1, 5, none⟩ = some (.int .i64 b0) := HN5.out 5 _ rfl
      have f6 : w5.cell? ⟨w.heap.size + 1, 6, none⟩ = some (.int .i64 b1) := HN5.out 6 _ rfl
      have f7 : w5.cell? ⟨w.heap.size + 1, 7, none⟩ = some (.int .i64 b2) := HN5.out 7 _ rfl
      have f8 : w5.cell? ⟨w.heap.size + 1, 8, none⟩ = some (.int .i64 c0) := HN5.out 8 _ rfl
      have f9 : w5.cell? ⟨w.heap.size + 1, 9, none⟩ = some (.int .i64 c1) := HN5.out 9 _ rfl
      have f10 : w5.cell? ⟨w.heap.size + 1, 10, none⟩ = some (.int .i64 c2) := HN5.out 10 _ rfl
      go_wp2_with fail
      refine (V2.out _).mono ?_
      rintro er w6 ⟨rfl, b6⟩
      have G6 := Lib.hid (below_trans G5.out b6); have HN6 := Lib.hid (HN5.out.kept (by have := L5.out; omega) b6); have L6 := Lib.hid (Nat.lt_of_lt_of_le L5.out b6.size)
      clear b6
      clear f0 f1 f2 f3 f4 f5 f6 f7 f8 f9 f10
      cases r2
      · have hf := HOK3.out.trans (by simp : _ = false)
        subst hf
        go_wp2_with fail
        go_ret
        exact ⟨rfl, G6.out⟩
      have f0 : w6.cell? ⟨w.heap.size + 1, 0, none⟩ = some (.int .i64 (-1)) := HN6.out 0 _ rfl
      have f1 : w6.cell? ⟨w.heap.size + 1, 1, none⟩ = some (.int .i64 t) := HN6.out 1 _ rfl
      have f2 : w6.cell? ⟨w.heap.size + 1, 2, none⟩ = some (.int .i64 a0) := HN6.out 2 _ rfl
      have f3 : w6.cell? ⟨w.heap.size + 1, 3, none⟩ = some (.int .i64 a1) := HN6.out 3 _ rfl
      have f4 : w6.cell? ⟨w.heap.size + 1, 4, none⟩ = some (.int .i64 a2) := HN6.out 4 _ rfl
      have f5 : w6.cell? ⟨w.heap.size + 1, 5, none⟩ = some (.int .i64 b0) := HN6.out 5 _ rfl
      have f6 : w6.cell? ⟨w.heap.size + 1, 6, none⟩ = some (.int .i64 b1) := HN6.out 6 _ rfl
      have f7 : w6.cell? ⟨w.heap.size + 1, 7, none⟩ = some (.int .i64 b2) := HN6.out 7 _ rfl
      have f8 : w6.cell? ⟨w.heap.size + 1, 8, none⟩ = some (.int .i64 c0) := HN6.out 8 _ rfl
      have f9 : w6.cell? ⟨w.heap.size + 1, 9, none⟩ = some (.int .i64 c1) := HN6.out 9 _ rfl
      have f10 : w6.cell? ⟨w.heap.size + 1, 10, none⟩ = some (.int .i64 c2) := HN6.out 10 _ rfl
      go_wp2_with fail
      refine (V3'.out _).mono ?_
      rintro er w7 ⟨rfl, b7⟩
      have G7 := Lib.hid (below_trans G6.out b7); have HN7 := Lib.hid (HN6.out.kept (by have := L6.out; omega) b7); have L7 := Lib.hid (Nat.lt_of_lt_of_le L6.out b7.size)
      clear b7
      clear f0 f1 f2 f3 f4 f5 f6 f7 f8 f9 f10
      cases r3
      · have hf := HOK3.out.trans (by simp : _ = false)
        subst hf
        go_wp2_with fail
        go_ret
        exact ⟨rfl, G7.out⟩
      have f0 : w7.cell? ⟨w.heap.size + 1, 0, none⟩ = some (.int .i64 (-1)) := HN7.out 0 _ rfl
      have f1 : w7.cell? ⟨w.heap.size + 1, 1, none⟩ = some (.int .i64 t) := HN7.out 1 _ rfl
      have f2 : w7.cell? ⟨w.heap.size + 1, 2, none⟩ = some (.int .i64 a0) := HN7.out 2 _ rfl
      have f3 : w7.cell? ⟨w.heap.size + 1, 3, none⟩ = some (.int .i64 a1) := HN7.out 3 _ rfl
      have f4 : w7.cell? ⟨w.heap.size + 1, 4, none⟩ = some (.int .i64 a2) := HN7.out 4 _ rfl
      have f5 : w7.cell? ⟨w.heap.size + 1, 5, none⟩ = some (.int .i64 b0) := HN7.out 5 _ rfl
      have f6 : w7.cell? ⟨w.heap.size + 1, 6, none⟩ = some (.int .i64 b1) := HN7.out 6 _ rfl
      have f7 : w7.cell? ⟨w.heap.size + 1, 7, none⟩ = some (.int .i64 b2) := HN7.out 7 _ rfl
      have f8 : w7.cell? ⟨w.heap.size + 1, 8, none⟩ = some (.int .i64 c0) := HN7.out 8 _ rfl
      have f9 : w7.cell? ⟨w.heap.size + 1, 9, none⟩ = some (.int .i64 c1) := HN7.out 9 _ rfl
      have f10 : w7.cell? ⟨w.heap.size + 1, 10, none⟩ = some (.int .i64 c2) := HN7.out 10 _ rfl
      have hf := HOK3.out.trans (by simp : _ = r4)
      subst hf
      go_wp2_with fail
      refine (V4.out _).mono ?_
      rintro er w8 ⟨rfl, b8⟩
      have G8 := Lib.hid (below_trans G7.out b8)
      clear b8
      clear f0 f1 f2 f3 f4 f5 f6 f7 f8 f9 f10
      go_wp2_with fail
      go_ret
      exact ⟨rfl, G8.out⟩
    have pm' : (p != -1) = true := by simpa using pm
    have hp := HPL.out.trans (by rw [Bool.not_eq_false']; simp only [Bool.or_eq_true, decide_eq_true_eq]; exact .inl (.inl (.inl ⟨by trivial, pm⟩)) : _ = false)
    have hf := HOK.out.trans (by rw [hp, Bool.false_and] : _ = false)
    subst hf
    go_enter Try.func25, Try.ntmps25
    go_upto_region 2 with (first | (refine wpList_load_mid rfl 60 _ rfl nb oi rfl _ _ HR1.out Try.underlying60 rfl node_len ?_) | fail)
    go_wp2_with fail
    go_ret
    exact ⟨rfl, G2.out⟩
  have i0' : (i == 0) = false := by simpa using i0
  by_cases p0 : p < 0
  · have hp := HPL.out.trans (by rw [Bool.not_eq_false']; simp only [Bool.or_eq_true, decide_eq_true_eq]; omega : _ = false)
    have hf := HOK.out.trans (by rw [hp, Bool.false_and] : _ = false)
    subst hf
    go_enter Try.func25, Try.ntmps25
    go_upto_region 2 with (first | (refine wpList_load_mid rfl 60 _ rfl nb oi rfl _ _ HR1.out Try.underlying60 rfl node_len ?_) | fail)
    go_wp2_with fail
    go_ret
    exact ⟨rfl, G2.out⟩
  by_cases p1 : i ≤ p
  · have hp := HPL.out.trans (by rw [Bool.not_eq_false']; simp only [Bool.or_eq_true, decide_eq_true_eq]; omega : _ = false)
    have hf := HOK.out.trans (by rw [hp, Bool.false_and] : _ = false)
    subst hf
    go_enter Try.func25, Try.ntmps25
    go_upto_region 2 with (first | (refine wpList_load_mid rfl 60 _ rfl nb oi rfl _ _ HR1.out Try.underlying60 rfl node_len ?_) | fail)
    go_wp2_with fail
    go_ret
    exact ⟨rfl, G2.out⟩
  by_cases w0 : t < 1
  · have hp := HPL.out.trans (by rw [Bool.not_eq_false']; simp only [Bool.or_eq_true, decide_eq_true_eq]; omega : _ = false)
    have hf := HOK.out.trans (by rw [hp, Bool.false_and] : _ = false)
    subst hf
    go_enter Try.func25, Try.ntmps25
    go_upto_region 2 with (first | (refine wpList_load_mid rfl 60 _ rfl nb oi rfl _ _ HR1.out Try.underlying60 rfl node_len ?_) | fail)
    go_wp2_with fail
    go_ret
    exact ⟨rfl, G2.out⟩
  by_cases w1 : 1000 < t
  · have hp := HPL.out.trans (by rw [Bool.not_eq_false']; simp only [Bool.or_eq_true, decide_eq_true_eq]; omega : _ = false)
    have hf := HOK.out.trans (by rw [hp, Bool.false_and] : _ = false)
    subst hf
    go_enter Try.func25, Try.ntmps25
    go_upto_region 2 with (first | (refine wpList_load_mid rfl 60 _ rfl nb oi rfl _ _ HR1.out Try.underlying60 rfl node_len ?_) | fail)
    go_wp2_with fail
    go_ret
    exact ⟨rfl, G2.out⟩
  have hp := HPL.out.trans (by rw [Bool.not_eq_true']; simp only [Bool.or_eq_false_iff, decide_eq_false_iff_not]; omega : _ = true)
  have hok := HOK.out
  rw [hp, Bool.true_and] at hok
  have HOK2 := Lib.hid hok
  clear hok hp
  have g3 : Below w.heap.size w (((w.alloc (.cells #[.slice an nl cn, .slice ah hl ch, .int .i64 ha, .int .i64 ag] 25)).alloc (.cells #[.int .i64 p, .int .i64 t, .int .i64 a0, .int .i64 a1, .int .i64 a2, .int .i64 b0, .int .i64 b1, .int .i64 b2, .int .i64 c0, .int .i64 c1, .int .i64 c2] 60)).alloc (.cells #[.int .i64 0, .int .i64 0, .int .i64 0] 35)) := G2.out.alloc G2.out.size _
  have G3 := Lib.hid g3
  have hn3 : Holds (((w.alloc (.cells #[.slice an nl cn, .slice ah hl ch, .int .i64 ha, .int .i64 ag] 25)).alloc (.cells #[.int .i64 p, .int .i64 t, .int .i64 a0, .int .i64 a1, .int .i64 a2, .int .i64 b0, .int .i64 b1, .int .i64 b2, .int .i64 c0, .int .i64 c1, .int .i64 c2] 60)).alloc (.cells #[.int .i64 0, .int .i64 0, .int .i64 0] 35)) (w.heap.size + 1) #[.int .i64 p, .int .i64 t, .int .i64 a0, .int .i64 a1, .int .i64 a2, .int .i64 b0, .int .i64 b1, .int .i64 b2, .int .i64 c0, .int .i64 c1, .int .i64 c2] := by
    have h := (Holds.new (w.alloc (.cells #[.slice an nl cn, .slice ah hl ch, .int .i64 ha, .int .i64 ag] 25)) #[.int .i64 p, .int .i64 t, .int .i64 a0, .int .i64 a1, .int .i64 a2, .int .i64 b0, .int .i64 b1, .int .i64 b2, .int .i64 c0, .int .i64 c1, .int .i64 c2] 60).kept (Nat.lt_of_lt_of_le (Nat.lt_succ_self _) (Nat.le_of_eq (World.size_alloc _ _).symm)) ((Below.refl _ _).alloc (Nat.le_refl _) (.cells #[.int .i64 0, .int .i64 0, .int .i64 0] 35))
    rwa [World.size_alloc] at h
  have hz3 : Holds (((w.alloc (.cells #[.slice an nl cn, .slice ah hl ch, .int .i64 ha, .int .i64 ag] 25)).alloc (.cells #[.int .i64 p, .int .i64 t, .int .i64 a0, .int .i64 a1, .int .i64 a2, .int .i64 b0, .int .i64 b1, .int .i64 b2, .int .i64 c0, .int .i64 c1, .int .i64 c2] 60)).alloc (.cells #[.int .i64 0, .int .i64 0, .int .i64 0] 35)) (w.heap.size + 2) #[.int .i64 0, .int .i64 0, .int .i64 0] := by
    have h := Holds.new ((w.alloc (.cells #[.slice an nl cn, .slice ah hl ch, .int .i64 ha, .int .i64 ag] 25)).alloc (.cells #[.int .i64 p, .int .i64 t, .int .i64 a0, .int .i64 a1, .int .i64 a2, .int .i64 b0, .int .i64 b1, .int .i64 b2, .int .i64 c0, .int .i64 c1, .int .i64 c2] 60)) #[.int .i64 0, .int .i64 0, .int .i64 0] 35
    rwa [World.size_alloc, World.size_alloc] at h
  have l3 : w.heap.size + 2 < (((w.alloc (.cells #[.slice an nl cn, .slice ah hl ch, .int .i64 ha, .int .i64 ag] 25)).alloc (.cells #[.int .i64 p, .int .i64 t, .int .i64 a0, .int .i64 a1, .int .i64 a2, .int .i64 b0, .int .i64 b1, .int .i64 b2, .int .i64 c0, .int .i64 c1, .int .i64 c2] 60)).alloc (.cells #[.int .i64 0, .int .i64 0, .int .i64 0] 35)).heap.size := by rw [World.size_alloc, World.size_alloc, World.size_alloc]; omega
  have HN3 := Lib.hid hn3; have HZ3 := Lib.hid hz3; have L3 := Lib.hid l3
  clear g3 hn3 hz3 l3
  go_enter Try.func25, Try.ntmps25
  go_upto_region 2 with (first | (refine wpList_load_mid rfl 60 _ rfl nb oi rfl _ _ HR1.out Try.underlying60 rfl node_len ?_) | fail)
  go_wp2_with fail
  refine (HLEAF.out _ G3.out).mono ?_
  rintro er w4 ⟨rfl, b4⟩
  have G4 := Lib.hid (below_trans G3.out b4); have HN4 := Lib.hid (HN3.out.kept (by have := L3.out; omega) b4); have HZ4 := Lib.hid (HZ3.out.kept L3.out b4); have L4 := Lib.hid (Nat.lt_of_lt_of_le L3.out b4.size)
  clear b4
  cases L
  · have hok := HOK2.out
    rw [if_neg (by simp)] at hok
    have HOK3 := Lib.hid hok
    clear hok
    have f0 : w4.cell? ⟨w.heap.size + 1, 0, none⟩ = some (.int .i64 p) := HN4.out 0 _ rfl
    have f1 : w4.cell? ⟨w.heap.size + 1, 1, none⟩ = some (.int .i64 t) := HN4.out 1 _ rfl
    have f2 : w4.cell? ⟨w.heap.size + 1, 2, none⟩ = some (.int .i64 a0) := HN4.out 2 _ rfl
    have f3 : w4.cell? ⟨w.heap.size + 1, 3, none⟩ = some (.int .i64 a1) := HN4.out 3 _ rfl
    have f4 : w4.cell? ⟨w.heap.size + 1, 4, none⟩ = some (.int .i64 a2) := HN4.out 4 _ rfl
    have f5 : w4.cell? ⟨w.heap.size + 1, 5, none⟩ = some (.int .i64 b0) := HN4.out 5 _ rfl
    have f6 : w4.cell? ⟨w.heap.size + 1, 6, none⟩ = some (.int .i64 b1) := HN4.out 6 _ rfl
    have f7 : w4.cell? ⟨w.heap.size + 1, 7, none⟩ = some (.int .i64 b2) := HN4.out 7 _ rfl
    have f8 : w4.cell? ⟨w.heap.size + 1, 8, none⟩ = some (.int .i64 c0) := HN4.out 8 _ rfl
    have f9 : w4.cell? ⟨w.heap.size + 1, 9, none⟩ = some (.int .i64 c1) := HN4.out 9 _ rfl
    have f10 : w4.cell? ⟨w.heap.size + 1, 10, none⟩ = some (.int .i64 c2) := HN4.out 10 _ rfl
    have z0 : w4.cell? ⟨w.heap.size + 2, 0, none⟩ = some (.int .i64 0) := HZ4.out 0 _ rfl
    have z1 : w4.cell? ⟨w.heap.size + 2, 1, none⟩ = some (.int .i64 0) := HZ4.out 1 _ rfl
    have z2 : w4.cell? ⟨w.heap.size + 2, 2, none⟩ = some (.int .i64 0) := HZ4.out 2 _ rfl
    cases e1
    · have hf := HOK3.out.trans (by rfl : _ = false)
      subst hf
      go_wp2_with fail
      go_ret
      exact ⟨rfl, G4.out⟩
    cases e2
    · have hf := HOK3.out.trans (by rfl : _ = false)
      subst hf
      go_wp2_with fail
      go_ret
      exact ⟨rfl, G4.out⟩
    have hf := HOK3.out.trans (by rfl : _ = e3)
    subst hf
    go_wp2_with fail
    go_ret
    exact ⟨rfl, G4.out⟩
  have hok := HOK2.out
  rw [if_pos rfl] at hok
  have HOK3 := Lib.hid hok
  clear hok
  have f0 : w4.cell? ⟨w.heap.size + 1, 0, none⟩ = some (.int .i64 p) := HN4.out 0 _ rfl
  have f1 : w4.cell? ⟨w.heap.size + 1, 1, none⟩ = some (.int .i64 t) := HN4.out 1 _ rfl
  have f2 : w4.cell? ⟨w.heap.size + 1, 2, none⟩ = some (.int .i64 a0) := HN4.out 2 _ rfl
  have f3 : w4.cell? ⟨w.heap.size + 1, 3, none⟩ = some (.int .i64 a1) := HN4.out 3 _ rfl
  have f4 : w4.cell? ⟨w.heap.size + 1, 4, none⟩ = some (.int .i64 a2) := HN4.out 4 _ rfl
  have f5 : w4.cell? ⟨w.heap.size + 1, 5, none⟩ = some (.int .i64 b0) := HN4.out 5 _ rfl
  have f6 : w4.cell? ⟨w.heap.size + 1, 6, none⟩ = some (.int .i64 b1) := HN4.out 6 _ rfl
  have f7 : w4.cell? ⟨w.heap.size + 1, 7, none⟩ = some (.int .i64 b2) := HN4.out 7 _ rfl
  have f8 : w4.cell? ⟨w.heap.size + 1, 8, none⟩ = some (.int .i64 c0) := HN4.out 8 _ rfl
  have f9 : w4.cell? ⟨w.heap.size + 1, 9, none⟩ = some (.int .i64 c1) := HN4.out 9 _ rfl
  have f10 : w4.cell? ⟨w.heap.size + 1, 10, none⟩ = some (.int .i64 c2) := HN4.out 10 _ rfl
  go_wp2_with fail
  refine (V1.out _).mono ?_
  rintro er w5 ⟨rfl, b5⟩
  have G5 := Lib.hid (below_trans G4.out b5); have HN5 := Lib.hid (HN4.out.kept (by have := L4.out; omega) b5); have L5 := Lib.hid (Nat.lt_of_lt_of_le L4.out b5.size)
  clear b5
  clear f0 f1 f2 f3 f4 f5 f6 f7 f8 f9 f10
  cases r1
  · have hf := HOK3.out.trans (by simp : _ = false)
    subst hf
    go_wp2_with fail
    go_ret
    exact ⟨rfl, G5.out⟩
  have f0 : w5.cell? ⟨w.heap.size + 1, 0, none⟩ = some (.int .i64 p) := HN5.out 0 _ rfl
  have f1 : w5.cell? ⟨w.heap.size + 1, 1, none⟩ = some (.int .i64 t) := HN5.out 1 _ rfl
  have f2 : w5.cell? ⟨w.heap.size + 1, 2, none⟩ = some (.int .i64 a0) := HN5.out 2 _ rfl
  have f3 : w5.cell? ⟨w.heap.size + 1, 3, none⟩ = some (.int .i64 a1) := HN5.out 3 _ rfl
  have f4 : w5.cell? ⟨w.heap.size + 1, 4, none⟩ = some (.int .i64 a2) := HN5.out 4 _ rfl
  have f5 : w5.cell? ⟨w.heap.size + 1, 5, none⟩ = some (.int .i64 b0) := HN5.out 5 _ rfl
  have f6 : w5.cell? ⟨w.heap.size + 1, 6, none⟩ = some (.int .i64 b1) := HN5.out 6 _ rfl
  have f7 : w5.cell? ⟨w.heap.size + 1, 7, none⟩ = some (.int .i64 b2) := HN5.out 7 _ rfl
  have f8 : w5.cell? ⟨w.heap.size + 1, 8, none⟩ = some (.int .i64 c0) := HN5.out 8 _ rfl
  have f9 : w5.cell? ⟨w.heap.size + 1, 9, none⟩ = some (.int .i64 c1) := HN5.out 9 _ rfl
  have f10 : w5.cell? ⟨w.heap.size + 1, 10, none⟩ = some (.int .i64 c2) := HN5.out 10 _ rfl
  go_wp2_with fail
  refine (V2.out _).mono ?_
  rintro er w6 ⟨rfl, b6⟩
  have G6 := Lib.hid (below_trans G5.out b6); have HN6 := Lib.hid (HN5.out.kept (by have := L5.out; omega) b6); have L6 := Lib.hid (Nat.lt_of_lt_of_le L5.out b6.size)
  clear b6
  clear f0 f1 f2 f3 f4 f5 f6 f7 f8 f9 f10
  cases r2
  · have hf := HOK3.out.trans (by simp : _ = false)
    subst hf
    go_wp2_with fail
    go_ret
    exact ⟨rfl, G6.out⟩
  have f0 : w6.cell? ⟨w.heap.size + 1, 0, none⟩ = some (.int .i64 p) := HN6.out 0 _ rfl
  have f1 : w6.cell? ⟨w.heap.size + 1, 1, none⟩ = some (.int .i64 t) := HN6.out 1 _ rfl
  have f2 : w6.cell? ⟨w.heap.size + 1, 2, none⟩ = some (.int .i64 a0) := HN6.out 2 _ rfl
  have f3 : w6.cell? ⟨w.heap.size + 1, 3, none⟩ = some (.int .i64 a1) := HN6.out 3 _ rfl
  have f4 : w6.cell? ⟨w.heap.size + 1, 4, none⟩ = some (.int .i64 a2) := HN6.out 4 _ rfl
  have f5 : w6.cell? ⟨w.heap.size + 1, 5, none⟩ = some (.int .i64 b0) := HN6.out 5 _ rfl
  have f6 : w6.cell? ⟨w.heap.size + 1, 6, none⟩ = some (.int .i64 b1) := HN6.out 6 _ rfl
  have f7 : w6.cell? ⟨w.heap.size + 1, 7, none⟩ = some (.int .i64 b2) := HN6.out 7 _ rfl
  have f8 : w6.cell? ⟨w.heap.size + 1, 8, none⟩ = some (.int .i64 c0) := HN6.out 8 _ rfl
  have f9 : w6.cell? ⟨w.heap.size + 1, 9, none⟩ = some (.int .i64 c1) := HN6.out 9 _ rfl
  have f10 : w6.cell? ⟨w.heap.size + 1, 10, none⟩ = some (.int .i64 c2) := HN6.out 10 _ rfl
  go_wp2_with fail
  refine (V3'.out _).mono ?_
  rintro er w7 ⟨rfl, b7⟩
  have G7 := Lib.hid (below_trans G6.out b7); have HN7 := Lib.hid (HN6.out.kept (by have := L6.out; omega) b7); have L7 := Lib.hid (Nat.lt_of_lt_of_le L6.out b7.size)
  clear b7
  clear f0 f1 f2 f3 f4 f5 f6 f7 f8 f9 f10
  cases r3
  · have hf := HOK3.out.trans (by simp : _ = false)
    subst hf
    go_wp2_with fail
    go_ret
    exact ⟨rfl, G7.out⟩
  have f0 : w7.cell? ⟨w.heap.size + 1, 0, none⟩ = some (.int .i64 p) := HN7.out 0 _ rfl
  have f1 : w7.cell? ⟨w.heap.size + 1, 1, none⟩ = some (.int .i64 t) := HN7.out 1 _ rfl
  have f2 : w7.cell? ⟨w.heap.size + 1, 2, none⟩ = some (.int .i64 a0) := HN7.out 2 _ rfl
  have f3 : w7.cell? ⟨w.heap.size + 1, 3, none⟩ = some (.int .i64 a1) := HN7.out 3 _ rfl
  have f4 : w7.cell? ⟨w.heap.size + 1, 4, none⟩ = some (.int .i64 a2) := HN7.out 4 _ rfl
  have f5 : w7.cell? ⟨w.heap.size + 1, 5, none⟩ = some (.int .i64 b0) := HN7.out 5 _ rfl
  have f6 : w7.cell? ⟨w.heap.size + 1, 6, none⟩ = some (.int .i64 b1) := HN7.out 6 _ rfl
  have f7 : w7.cell? ⟨w.heap.size + 1, 7, none⟩ = some (.int .i64 b2) := HN7.out 7 _ rfl
  have f8 : w7.cell? ⟨w.heap.size + 1, 8, none⟩ = some (.int .i64 c0) := HN7.out 8 _ rfl
  have f9 : w7.cell? ⟨w.heap.size + 1, 9, none⟩ = some (.int .i64 c1) := HN7.out 9 _ rfl
  have f10 : w7.cell? ⟨w.heap.size + 1, 10, none⟩ = some (.int .i64 c2) := HN7.out 10 _ rfl
  have hf := HOK3.out.trans (by simp : _ = r4)
  subst hf
  go_wp2_with fail
  refine (V4.out _).mono ?_
  rintro er w8 ⟨rfl, b8⟩
  have G8 := Lib.hid (below_trans G7.out b8)
  clear b8
  clear f0 f1 f2 f3 f4 f5 f6 f7 f8 f9 f10
  go_wp2_with fail
  go_ret
  exact ⟨rfl, G8.out⟩

end Go.Proofs.Ytkaikekibmgmmaa

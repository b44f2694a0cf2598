/- The plain answer's tests of a configuration. -/
import Derived.Test.YtpnfhcpapjomnaaCmdA
namespace Go.Proofs.Ytpnfhcpapjomnaa
open Go.RowKit
set_option linter.unusedVariables false

/-- A node's amounts in a block that was just made. -/
theorem node_at (w : World) (cs : Array Value) (t u : TypeId) (ds : Array Value) (o : Nat) {a b c : Value} (h0 : cs[o]? = some a) (h1 : cs[o + 1]? = some b) (h2 : cs[o + 2]? = some c) : ((w.alloc (.cells cs t)).alloc (.cells ds u)).rangeAt w.heap.size o [a, b, c] :=
  range_kept (range_new w cs t o _ (three_at h0 h1 h2)) (by simp) ((Below.refl _ _).alloc (Nat.le_refl _) _)
theorem range_three {w : World} {b o : Nat} {a0 a1 a2 : Value} (h : w.rangeAt b o [a0, a1, a2]) : w.cell? ⟨b, o, none⟩ = some a0 ∧ w.cell? ⟨b, o + 1, none⟩ = some a1 ∧ w.cell? ⟨b, o + 2, none⟩ = some a2 := ⟨h 0 _ rfl, h 1 _ rfl, h 2 _ rfl⟩
theorem two_below (w : World) (a b : Obj) : Below w.heap.size w ((w.alloc a).alloc b) := ((Below.refl _ _).alloc (Nat.le_refl _) _).alloc (by simp) _

theorem rEmpty_any (an ah : Option Addr) (nl cn hl ch : Nat) (half age : Int) (w : World) : Calls Try.prog 27 #[.agg #[.slice an nl cn, .slice ah hl ch, .int .i64 half, .int .i64 age]] w (RetBelow (.bool (decide (nl = 0) && decide (hl = 0) && decide (half = 0) && decide (age = 0))) w) := by
  obtain ⟨x, hx⟩ : ∃ x : Int, (nl : Int) = x := ⟨_, rfl⟩
  obtain ⟨y, hy⟩ : ∃ x : Int, (hl : Int) = x := ⟨_, rfl⟩
  have e : Hid ((decide (nl = 0) && decide (hl = 0) && decide (half = 0) && decide (age = 0)) = (decide (x = 0) && decide (y = 0) && decide (half = 0) && decide (age = 0))) := Lib.hid (by
    rw [Bool.eq_iff_iff]; simp only [Bool.and_eq_true, decide_eq_true_eq]; omega)
  by_cases h1 : x = 0
  · by_cases h2 : y = 0
    · by_cases h3 : half = 0
      · by_cases h4 : age = 0
        · go_enter Try.func27, Try.ntmps27
          go_wp2_with fail
          go_ret
          exact ⟨by rw [e.out]; simp [h1, h2, h3, h4], (Below.refl _ _).alloc (Nat.le_refl _) _⟩
        · go_enter Try.func27, Try.ntmps27
          go_wp2_with fail
          go_ret
          exact ⟨by rw [e.out]; simp [h4], (Below.refl _ _).alloc (Nat.le_refl _) _⟩
      · go_enter Try.func27, Try.ntmps27
        go_wp2_with fail
        go_ret
        exact ⟨by rw [e.out]; simp [h3], (Below.refl _ _).alloc (Nat.le_refl _) _⟩
    · go_enter Try.func27, Try.ntmps27
      go_wp2_with fail
      go_ret
      exact ⟨by rw [e.out]; simp [h2], (Below.refl _ _).alloc (Nat.le_refl _) _⟩
  · go_enter Try.func27, Try.ntmps27
    go_wp2_with fail
    go_ret
    exact ⟨by rw [e.out]; simp [h1], (Below.refl _ _).alloc (Nat.le_refl _) _⟩

theorem okC_node {c : Cmd} {k : Nat} {x : Nd} (h : c.nodes[k]? = some x) (hx : Cm.okN x = false) : Cm.okC c = false := by
  have : c.nodes.all Cm.okN = false := by
    rw [List.all_eq_false]
    exact ⟨x, List.mem_of_getElem? h, by simp [hx]⟩
  simp [Cm.okC, this]
theorem okC_host {c : Cmd} {k : Nat} {x : Hs} (h : c.hosts[k]? = some x) (hx : Cm.okH x = false) : Cm.okC c = false := by
  have : c.hosts.all Cm.okH = false := by
    rw [List.all_eq_false]
    exact ⟨x, List.mem_of_getElem? h, by simp [hx]⟩
  simp [Cm.okC, this]
theorem okN_par {n : Nd} (h : ¬ (-1 ≤ n.par ∧ n.par ≤ 1099511627776)) : Cm.okN n = false := by
  have e : Cm.okP n.par = false := by unfold Cm.okP; exact decide_eq_false h
  simp [Cm.okN, e]
/-- All elements so far. -/
def Upto {α : Type} (o : α → Bool) (l : List α) (j : Int) : Prop := ∀ k : Nat, k < j.toNat → ∀ x, l[k]? = some x → o x = true
theorem Upto.zero {α : Type} (o : α → Bool) (l : List α) : Upto o l 0 := fun k hk => by simp at hk
theorem Upto.succ {α : Type} {o : α → Bool} {l : List α} {j : Int} {x : α} (h : Upto o l j) (h0 : 0 ≤ j) (hx : l[j.toNat]? = some x) (ho : o x = true) : Upto o l (j + 1) := by
  intro k hk y hy
  by_cases e : k = j.toNat
  · subst e
    rw [hx] at hy
    injection hy with hy
    rw [← hy]; exact ho
  · exact h k (by omega) y hy
theorem Upto.all {α : Type} {o : α → Bool} {l : List α} {j : Int} (h : Upto o l j) (hj : (l.length : Int) ≤ j) : l.all o = true := by
  rw [List.all_eq_true]
  intro x hx
  obtain ⟨k, hk, e⟩ := List.mem_iff_getElem.1 hx
  exact h k (by omega) x (by rw [List.getElem?_eq_getElem hk, e])

theorem node_len : (Try.prog.info? 78).map (·.size) = some 11 := by kernel_rfl
theorem host_len : (Try.prog.info? 81).map (·.size) = some 6 := by kernel_rfl

set_option maxHeartbeats 1000000 in
set_option maxRecDepth 8000 in
theorem rConf_any (c : Cmd) (an ah : Option Addr) (cn ch nb no hb ho : Nat) (w : World) (hN : Sl Nd.c 22 11 w an cn nb no c.nodes) (hH : Sl Hs.c 23 6 w ah ch hb ho c.hosts) :
    Calls Try.prog 26 #[.agg #[.slice an c.nodes.length cn, .slice ah c.hosts.length ch, .int .i64 c.half, .int .i64 c.age]] w (RetBelow (.bool (Cm.okC c)) w) := by
  obtain ⟨nl, hnl⟩ : ∃ n, c.nodes.length = n := ⟨_, rfl⟩
  obtain ⟨hl, hhl⟩ : ∃ n, c.hosts.length = n := ⟨_, rfl⟩
  have hNi := hN.idx
  have hHi := hH.idx
  have n63 := hN.small
  have h63 := hH.small
  rw [hnl] at hNi n63 ⊢
  rw [hhl] at hHi h63 ⊢
  obtain ⟨zn, hzn⟩ : ∃ z : Int, (nl : Int) = z := ⟨_, rfl⟩
  obtain ⟨zh, hzh⟩ : ∃ z : Int, (hl : Int) = z := ⟨_, rfl⟩
  obtain ⟨ha, hha⟩ : ∃ z, c.half = z := ⟨_, rfl⟩
  obtain ⟨ag, hag⟩ : ∃ z, c.age = z := ⟨_, rfl⟩
  rw [hha, hag]
  have HNI := Lib.hid hNi; have HHI := Lib.hid hHi; have HN := Lib.hid hN; have HH := Lib.hid hH
  have HL := Lib.hid (And.intro hnl (And.intro hhl (And.intro hha hag)))
  clear hNi hHi hN hH hnl hhl hha hag
  have gW : Below w.heap.size w (w.alloc (.cells #[.slice an nl cn, .slice ah hl ch, .int .i64 ha, .int .i64 ag] 25)) := (Below.refl _ _).alloc (Nat.le_refl _) _
  have hcl : ∀ i v, (#[Value.slice an nl cn, .slice ah hl ch, .int .i64 ha, .int .i64 ag])[i]? = some v → (w.alloc (.cells #[.slice an nl cn, .slice ah hl ch, .int .i64 ha, .int .i64 ag] 25)).cell? ⟨w.heap.size, i, none⟩ = some v := fun i v hv => (World.cell?_alloc_at (w := w) _ _ _ i rfl).trans hv
  have h0 := hcl 0 _ rfl
  have h1 := hcl 1 _ rfl
  have h2 := hcl 2 _ rfl
  have h3 := hcl 3 _ rfl
  have hlt : w.heap.size < (w.alloc (.cells #[.slice an nl cn, .slice ah hl ch, .int .i64 ha, .int .i64 ag] 25)).heap.size := by simp
  clear hcl
  go_enter Try.func26, Try.ntmps26
  go_wp2_with fail
  obtain ⟨W, hW⟩ : ∃ W, w.alloc (.cells #[.slice an nl cn, .slice ah hl ch, .int .i64 ha, .int .i64 ag] 25) = W := ⟨_, rfl⟩
  rw [hW] at gW h0 h1 h2 h3 hlt ⊢
  clear hW
  have GW := Lib.hid gW
  have q0 := Lib.hid (fun w2 (g : Below W.heap.size W w2) => (g.cell (p := ⟨w.heap.size, 0, none⟩) hlt).trans h0)
  have q1 := Lib.hid (fun w2 (g : Below W.heap.size W w2) => (g.cell (p := ⟨w.heap.size, 1, none⟩) hlt).trans h1)
  have q2 := Lib.hid (fun w2 (g : Below W.heap.size W w2) => (g.cell (p := ⟨w.heap.size, 2, none⟩) hlt).trans h2)
  have q3 := Lib.hid (fun w2 (g : Below W.heap.size W w2) => (g.cell (p := ⟨w.heap.size, 3, none⟩) hlt).trans h3)
  clear h0 h1 h2 h3 hlt gW
  go_loopw [3] (fun i wr => ∃ (j : Int), i = .int .i64 j ∧ 0 ≤ j ∧ j ≤ zn ∧ Hid (Upto Cm.okN c.nodes j ∧ Below W.heap.size W wr)) (fun i _ => (zn - intOf i).toNat)
  case atStart => exact ⟨0, rfl, by omega, by omega, Upto.zero _ _, Below.refl _ _⟩
  case round =>
    obtain ⟨j, rfl, hj0, hjz, hd⟩ := hrel
    have k0 := q0.out wr hd.out.2
    by_cases hlt : j < zn
    · obtain ⟨x, hx⟩ : ∃ x, c.nodes[j.toNat]? = some x := ⟨_, List.getElem?_eq_getElem (by have := HL.out.1; omega)⟩
      have hi := HNI.out j.toNat (by omega)
      rw [show ((j.toNat : Nat) : Int) = j by omega] at hi
      have hr := ((HN.out.kept GW.out).kept hd.out.2).at_ j.toNat x hx
      obtain ⟨p, t, ⟨a0, a1, a2⟩, ⟨b0, b1, b2⟩, ⟨c0, c1, c2⟩⟩ := x
      have HR := Lib.hid hr; have HX := Lib.hid hx
      clear hr hx
      simp only [Nd.c] at HR
      obtain ⟨oi, hoi⟩ : ∃ n, no + j.toNat * 11 = n := ⟨_, rfl⟩
      rw [hoi] at hi HR
      clear hoi
      by_cases hp0 : p < -1
      · have hf : Hid (Cm.okC c = false) := Lib.hid (okC_node HX.out (okN_par (by show ¬ (-1 ≤ p ∧ p ≤ 1099511627776); omega)))
        go_wp2_with (refine wpList_load_mid rfl 78 _ rfl nb oi rfl _ _ HR.out Try.underlying78 rfl node_len ?_)
        go_ret
        exact ⟨by rw [hf.out]; rfl, below_trans GW.out (hd.out.2.alloc hd.out.2.size _)⟩
      by_cases hp1 : 1099511627776 < p
      · have hf : Hid (Cm.okC c = false) := Lib.hid (okC_node HX.out (okN_par (by show ¬ (-1 ≤ p ∧ p ≤ 1099511627776); omega)))
        go_wp2_with (refine wpList_load_mid rfl 78 _ rfl nb oi rfl _ _ HR.out Try.underlying78 rfl node_len ?_)
        go_ret
        exact ⟨by rw [hf.out]; rfl, below_trans GW.out (hd.out.2.alloc hd.out.2.size _)⟩
      have hpp : Hid (Cm.okP p = true) := Lib.hid ((Cm.okP_iff p).2 (by omega))
      go_wp2_with (refine wpList_load_mid rfl 78 _ rfl nb oi rfl _ _ HR.out Try.underlying78 rfl node_len ?_)
      refine (rIn1 _ _ _ (by simp)).mono ?_
      rintro er w1 ⟨rfl, hw1⟩
      have g3 : Below wr.heap.size wr w1 := hw1 ▸ two_below _ _ _
      have r2 : w1.rangeAt wr.heap.size 2 [.int .i64 a0, .int .i64 a1, .int .i64 a2] := hw1 ▸ node_at _ _ _ _ _ _ rfl rfl rfl
      have r5 : w1.rangeAt wr.heap.size 5 [.int .i64 b0, .int .i64 b1, .int .i64 b2] := hw1 ▸ node_at _ _ _ _ _ _ rfl rfl rfl
      have r8 : w1.rangeAt wr.heap.size 8 [.int .i64 c0, .int .i64 c1, .int .i64 c2] := hw1 ▸ node_at _ _ _ _ _ _ rfl rfl rfl
      have z1 : wr.heap.size < w1.heap.size := by rw [← hw1, World.size_alloc, World.size_alloc]; omega
      have G3 := Lib.hid (hd.out.2.trans (g3.mono hd.out.2.size)); have R2 := Lib.hid r2; have R5 := Lib.hid r5; have R8 := Lib.hid r8; have Z1 := Lib.hid z1
      clear g3 r2 r5 r8 hw1 z1 hi k0
      obtain ⟨rt, hrt⟩ : ∃ r, Cm.ok t = r := ⟨_, rfl⟩
      rw [hrt]
      cases rt
      · have hf : Hid (Cm.okC c = false) := Lib.hid (okC_node HX.out (by simp [Cm.okN, hrt]))
        clear hrt
        go_wp2_with fail
        go_ret
        exact ⟨by rw [hf.out]; rfl, below_trans GW.out G3.out⟩
      have HT := Lib.hid hrt; clear hrt
      obtain ⟨e0, e1, e2⟩ : w1.cell? ⟨wr.heap.size, 2, none⟩ = some (.int .i64 a0) ∧ w1.cell? ⟨wr.heap.size, 3, none⟩ = some (.int .i64 a1) ∧ w1.cell? ⟨wr.heap.size, 4, none⟩ = some (.int .i64 a2) := range_three R2.out
      go_wp2_with fail
      refine (rVec_any ⟨a0, a1, a2⟩ _).mono ?_
      clear e0 e1 e2
      rintro er w2 ⟨rfl, b2⟩
      have G4 := Lib.hid (G3.out.trans (b2.mono G3.out.size)); have B2 := Lib.hid b2
      clear b2
      obtain ⟨ra, hra⟩ : ∃ r, Cm.okV ⟨a0, a1, a2⟩ = r := ⟨_, rfl⟩
      rw [hra]
      cases ra
      · have hf : Hid (Cm.okC c = false) := Lib.hid (okC_node HX.out (by simp [Cm.okN, hra]))
        clear hra
        go_wp2_with fail
        go_ret
        exact ⟨by rw [hf.out]; rfl, below_trans GW.out G4.out⟩
      have HA := Lib.hid hra; clear hra
      have R5' := Lib.hid (range_kept R5.out Z1.out B2.out)
      have R8' := Lib.hid (range_kept R8.out Z1.out B2.out)
      have Z2 : Hid (wr.heap.size < w2.heap.size) := Lib.hid (Nat.lt_of_lt_of_le Z1.out B2.out.size)
      obtain ⟨e0, e1, e2⟩ : w2.cell? ⟨wr.heap.size, 5, none⟩ = some (.int .i64 b0) ∧ w2.cell? ⟨wr.heap.size, 6, none⟩ = some (.int .i64 b1) ∧ w2.cell? ⟨wr.heap.size, 7, none⟩ = some (.int .i64 b2) := range_three R5'.out
      go_wp2_with fail
      refine (rVec_any ⟨b0, b1, b2⟩ _).mono ?_
      clear e0 e1 e2
      rintro er w3 ⟨rfl, b3⟩
      have G5 := Lib.hid (G4.out.trans (b3.mono G4.out.size)); have B3 := Lib.hid b3
      clear b3
      obtain ⟨rb, hrb⟩ : ∃ r, Cm.okV ⟨b0, b1, b2⟩ = r := ⟨_, rfl⟩
      rw [hrb]
      cases rb
      · have hf : Hid (Cm.okC c = false) := Lib.hid (okC_node HX.out (by simp [Cm.okN, hrb]))
        clear hrb
        go_wp2_with fail
        go_ret
        exact ⟨by rw [hf.out]; rfl, below_trans GW.out G5.out⟩
      have HB := Lib.hid hrb; clear hrb
      have R8'' := Lib.hid (range_kept R8'.out Z2.out B3.out)
      obtain ⟨e0, e1, e2⟩ : w3.cell? ⟨wr.heap.size, 8, none⟩ = some (.int .i64 c0) ∧ w3.cell? ⟨wr.heap.size, 9, none⟩ = some (.int .i64 c1) ∧ w3.cell? ⟨wr.heap.size, 10, none⟩ = some (.int .i64 c2) := range_three R8''.out
      go_wp2_with fail
      refine (rVec_any ⟨c0, c1, c2⟩ _).mono ?_
      clear e0 e1 e2
      rintro er w4 ⟨rfl, b4⟩
      have G6 := Lib.hid (G5.out.trans (b4.mono G5.out.size))
      clear b4
      obtain ⟨rc, hrc⟩ : ∃ r, Cm.okV ⟨c0, c1, c2⟩ = r := ⟨_, rfl⟩
      rw [hrc]
      cases rc
      · have hf : Hid (Cm.okC c = false) := Lib.hid (okC_node HX.out (by simp [Cm.okN, hrc]))
        clear hrc
        go_wp2_with fail
        go_ret
        exact ⟨by rw [hf.out]; rfl, below_trans GW.out G6.out⟩
      have HC := Lib.hid hrc; clear hrc
      go_wp2_with fail
      go_roundw
      case rel => exact ⟨j + 1, rfl, by omega, by omega, hd.out.1.succ hj0 HX.out (by simp [Cm.okN, hpp.out, HT.out, HA.out, HB.out, HC.out]), G6.out⟩
      case measure => simp [intOf]; omega
    · have hall : Hid (c.nodes.all Cm.okN = true) := Lib.hid (hd.out.1.all (by have := HL.out.1; omega))
      go_wp2_with fail
      clear k0
      have HD := Lib.hid hd.out.2
      clear hd
      go_loopw [5] (fun i wt => ∃ (j : Int), i = .int .i64 j ∧ 0 ≤ j ∧ j ≤ zh ∧ Hid (Upto Cm.okH c.hosts j ∧ Below W.heap.size W wt)) (fun i _ => (zh - intOf i).toNat)
      case atStart => exact ⟨0, rfl, by omega, by omega, Upto.zero _ _, HD.out⟩
      case round =>
        obtain ⟨j, rfl, hj0, hjz, hd⟩ := hrel
        have k1 := q1.out wr hd.out.2
        by_cases hlt : j < zh
        · obtain ⟨x, hx⟩ : ∃ x, c.hosts[j.toNat]? = some x := ⟨_, List.getElem?_eq_getElem (by have := HL.out.2.1; omega)⟩
          have hi := HHI.out j.toNat (by omega)
          rw [show ((j.toNat : Nat) : Int) = j by omega] at hi
          have hr := ((HH.out.kept GW.out).kept hd.out.2).at_ j.toNat x hx
          obtain ⟨f, l, r, ⟨a0, a1, a2⟩⟩ := x
          have HR := Lib.hid hr; have HX := Lib.hid hx
          clear hr hx
          simp only [Hs.c] at HR
          obtain ⟨oi, hoi⟩ : ∃ n, ho + j.toNat * 6 = n := ⟨_, rfl⟩
          rw [hoi] at hi HR
          clear hoi
          go_wp2_with (refine wpList_load_mid rfl 81 _ rfl hb oi rfl _ _ HR.out Try.underlying81 rfl host_len ?_)
          refine (rIn3 _ _ _ _ _ (by simp)).mono ?_
          rintro er w1 ⟨rfl, hw1⟩
          have g3 : Below wr.heap.size wr w1 := hw1 ▸ two_below _ _ _
          have r2 : w1.rangeAt wr.heap.size 3 [.int .i64 a0, .int .i64 a1, .int .i64 a2] := hw1 ▸ node_at _ _ _ _ _ _ rfl rfl rfl
          have G3 := Lib.hid (hd.out.2.trans (g3.mono hd.out.2.size)); have R2 := Lib.hid r2
          clear g3 r2 hw1 hi k1
          obtain ⟨rt, hrt⟩ : ∃ b, (Cm.ok f && Cm.ok l && Cm.ok r) = b := ⟨_, rfl⟩
          rw [hrt]
          cases rt
          · have hf : Hid (Cm.okC c = false) := Lib.hid (okC_host HX.out (by simp [Cm.okH, hrt]))
            clear hrt
            go_wp2_with fail
            go_ret
            exact ⟨by rw [hf.out]; rfl, below_trans GW.out G3.out⟩
          have HT := Lib.hid hrt; clear hrt
          obtain ⟨e0, e1, e2⟩ : w1.cell? ⟨wr.heap.size, 3, none⟩ = some (.int .i64 a0) ∧ w1.cell? ⟨wr.heap.size, 4, none⟩ = some (.int .i64 a1) ∧ w1.cell? ⟨wr.heap.size, 5, none⟩ = some (.int .i64 a2) := range_three R2.out
          go_wp2_with fail
          refine (rVec_any ⟨a0, a1, a2⟩ _).mono ?_
          clear e0 e1 e2
          rintro er w2 ⟨rfl, b2⟩
          have G4 := Lib.hid (G3.out.trans (b2.mono G3.out.size))
          clear b2
          obtain ⟨ra, hra⟩ : ∃ r, Cm.okV ⟨a0, a1, a2⟩ = r := ⟨_, rfl⟩
          rw [hra]
          cases ra
          · have hf : Hid (Cm.okC c = false) := Lib.hid (okC_host HX.out (by simp [Cm.okH, hra]))
            clear hra
            go_wp2_with fail
            go_ret
            exact ⟨by rw [hf.out]; rfl, below_trans GW.out G4.out⟩
          have HA := Lib.hid hra; clear hra
          go_wp2_with fail
          go_roundw
          case rel => exact ⟨j + 1, rfl, by omega, by omega, hd.out.1.succ hj0 HX.out (by simp [Cm.okH, HT.out, HA.out]), G4.out⟩
          case measure => simp [intOf]; omega
        · have hall2 : Hid (c.hosts.all Cm.okH = true) := Lib.hid (hd.out.1.all (by have := HL.out.2.1; omega))
          have k2 := q2.out wr hd.out.2
          have k3 := q3.out wr hd.out.2
          go_wp2_with fail
          refine (rIn2 _ _ _ _ (by simp)).mono ?_
          rintro er w1 ⟨rfl, hw1⟩
          have g1 : Below wr.heap.size wr w1 := hw1 ▸ (Below.refl _ _).alloc (Nat.le_refl _) _
          have G1 := Lib.hid (hd.out.2.trans (g1.mono hd.out.2.size))
          clear g1 hw1 k1 k2 k3
          have hf : Hid (Cm.okC c = (Cm.ok ha && Cm.ok ag)) := Lib.hid (by rw [Cm.okC, hall.out, hall2.out, HL.out.2.2.1, HL.out.2.2.2]; simp)
          obtain ⟨r, hr⟩ : ∃ r, (Cm.ok ha && Cm.ok ag) = r := ⟨_, rfl⟩
          rw [hr] at hf ⊢
          clear hr
          go_wp2_with fail
          go_ret
          exact ⟨by rw [hf.out]; rfl, below_trans GW.out G1.out⟩

end Go.Proofs.Ytpnfhcpapjomnaa

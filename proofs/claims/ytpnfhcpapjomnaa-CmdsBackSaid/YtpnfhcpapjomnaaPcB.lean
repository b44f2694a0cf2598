/- The landed commands: may a configuration be told? -/
import Derived.Test.YtpnfhcpapjomnaaPcA
namespace Go.Proofs.Ytpnfhcpapjomnaa
open Go.RowKit
set_option linter.unusedVariables false

set_option maxHeartbeats 1000000 in
set_option maxRecDepth 8000 in
theorem mayBeConfig_any (c : Cmd) (an ah : Option Addr) (cn ch nb no hb ho : Nat) (w : World) (hN : Sl Nd.c 22 11 w an cn nb no c.nodes) (hH : Sl Hs.c 23 6 w ah ch hb ho c.hosts) :
    Calls Try.prog 23 #[.agg #[.slice an c.nodes.length cn, .slice ah c.hosts.length ch, .int .i64 c.half, .int .i64 c.age]] w (RetBelow (.bool (Cm.okC c)) w) := by
  obtain ⟨nl, hnl⟩ : ∃ n, c.nodes.length = n := ⟨_, rfl⟩
  obtain ⟨hl, hhl⟩ : ∃ n, c.hosts.length = n := ⟨_, rfl⟩
  have hNi := hN.idx
  have hHi := hH.idx
  have n63 := hN.small
  have h63 := hH.small
  rw [hnl] at hNi n63 ⊢
  rw [hhl] at hHi h63 ⊢
  obtain ⟨zn, hzn⟩ : ∃ z : Int, (nl : Int) = z := ⟨_, rfl⟩
  obtain ⟨zh, hzh⟩ : ∃ z : Int, (hl : Int) = z := ⟨_, rfl⟩
  obtain ⟨ha, hha⟩ : ∃ z, c.half = z := ⟨_, rfl⟩
  obtain ⟨ag, hag⟩ : ∃ z, c.age = z := ⟨_, rfl⟩
  rw [hha, hag]
  have HNI := Lib.hid hNi; have HHI := Lib.hid hHi; have HN := Lib.hid hN; have HH := Lib.hid hH
  have HL := Lib.hid (And.intro hnl (And.intro hhl (And.intro hha hag)))
  clear hNi hHi hN hH hnl hhl hha hag
  have gW : Below w.heap.size w (w.alloc (.cells #[.slice an nl cn, .slice ah hl ch, .int .i64 ha, .int .i64 ag] 25)) := (Below.refl _ _).alloc (Nat.le_refl _) _
  have hcl : ∀ i v, (#[Value.slice an nl cn, .slice ah hl ch, .int .i64 ha, .int .i64 ag])[i]? = some v → (w.alloc (.cells #[.slice an nl cn, .slice ah hl ch, .int .i64 ha, .int .i64 ag] 25)).cell? ⟨w.heap.size, i, none⟩ = some v := fun i v hv => (World.cell?_alloc_at (w := w) _ _ _ i rfl).trans hv
  have h0 := hcl 0 _ rfl
  have h1 := hcl 1 _ rfl
  have h2 := hcl 2 _ rfl
  have h3 := hcl 3 _ rfl
  have hlt : w.heap.size < (w.alloc (.cells #[.slice an nl cn, .slice ah hl ch, .int .i64 ha, .int .i64 ag] 25)).heap.size := by simp
  clear hcl
  go_enter Try.func23, Try.ntmps23
  go_wp2_with fail
  obtain ⟨W, hW⟩ : ∃ W, w.alloc (.cells #[.slice an nl cn, .slice ah hl ch, .int .i64 ha, .int .i64 ag] 25) = W := ⟨_, rfl⟩
  rw [hW] at gW h0 h1 h2 h3 hlt ⊢
  clear hW
  have GW := Lib.hid gW
  have q0 := Lib.hid (fun w2 (g : Below W.heap.size W w2) => (g.cell (p := ⟨w.heap.size, 0, none⟩) hlt).trans h0)
  have q1 := Lib.hid (fun w2 (g : Below W.heap.size W w2) => (g.cell (p := ⟨w.heap.size, 1, none⟩) hlt).trans h1)
  have q2 := Lib.hid (fun w2 (g : Below W.heap.size W w2) => (g.cell (p := ⟨w.heap.size, 2, none⟩) hlt).trans h2)
  have q3 := Lib.hid (fun w2 (g : Below W.heap.size W w2) => (g.cell (p := ⟨w.heap.size, 3, none⟩) hlt).trans h3)
  clear h0 h1 h2 h3 hlt gW
  go_loopw [11] (fun i wr => ∃ (j : Int), i = .int .i64 j ∧ 0 ≤ j ∧ j ≤ zn ∧ Hid (Upto Cm.okN c.nodes j ∧ Below W.heap.size W wr)) (fun i _ => (zn - intOf i).toNat)
  case atStart => exact ⟨0, rfl, by omega, by omega, Upto.zero _ _, Below.refl _ _⟩
  case round =>
    obtain ⟨j, rfl, hj0, hjz, hd⟩ := hrel
    by_cases hlt : j < zn
    · obtain ⟨x, hx⟩ : ∃ x, c.nodes[j.toNat]? = some x := ⟨_, List.getElem?_eq_getElem (by have := HL.out.1; omega)⟩
      have hi := HNI.out j.toNat (by omega)
      rw [show ((j.toNat : Nat) : Int) = j by omega] at hi
      have hr := ((HN.out.kept GW.out).kept hd.out.2).at_ j.toNat x hx
      obtain ⟨p, t, ⟨a0, a1, a2⟩, ⟨b0, b1, b2⟩, ⟨c0, c1, c2⟩⟩ := x
      have HR := Lib.hid hr; have HX := Lib.hid hx
      clear hr hx
      simp only [Nd.c] at HR
      obtain ⟨oi, hoi⟩ : ∃ n, no + j.toNat * 11 = n := ⟨_, rfl⟩
      rw [hoi] at hi HR
      clear hoi
      by_cases hp : p = -1
      · subst hp
        have hpp : Hid (Cm.okP (-1) = true) := Lib.hid (by decide)
        go_wp2_with (refine wpList_load_mid rfl 78 _ rfl nb oi rfl _ _ HR.out Try.underlying78 rfl node_len ?_)
        refine (mayBe1 _ _ _ (by simp)).mono ?_
        rintro er w1 ⟨rfl, hw1⟩
        have g3 : Below wr.heap.size wr w1 := hw1 ▸ two_below _ _ _
        have r2 : w1.rangeAt wr.heap.size 2 [.int .i64 a0, .int .i64 a1, .int .i64 a2] := hw1 ▸ node_at _ _ _ _ _ _ rfl rfl rfl
        have r5 : w1.rangeAt wr.heap.size 5 [.int .i64 b0, .int .i64 b1, .int .i64 b2] := hw1 ▸ node_at _ _ _ _ _ _ rfl rfl rfl
        have r8 : w1.rangeAt wr.heap.size 8 [.int .i64 c0, .int .i64 c1, .int .i64 c2] := hw1 ▸ node_at _ _ _ _ _ _ rfl rfl rfl
        have G3 := Lib.hid (hd.out.2.trans (g3.mono hd.out.2.size)); have R2 := Lib.hid r2; have R5 := Lib.hid r5; have R8 := Lib.hid r8
        clear g3 r2 r5 r8 hw1 hi
        obtain ⟨rt, hrt⟩ : ∃ r, Cm.ok t = r := ⟨_, rfl⟩
        rw [hrt]
        cases rt
        · have hf : Hid (Cm.okC c = false) := Lib.hid (okC_node HX.out (by simp [Cm.okN, hrt]))
          clear hrt
          go_wp2_with fail
          go_ret
          exact ⟨by rw [hf.out]; rfl, below_trans GW.out G3.out⟩
        have HT := Lib.hid hrt; clear hrt
        go_wp2_with fail
        refine (mayBeV ⟨a0, a1, a2⟩ _ _ _ R2.out).mono ?_
        rintro er w2 ⟨rfl, rfl⟩
        obtain ⟨ra, hra⟩ : ∃ r, Cm.okV ⟨a0, a1, a2⟩ = r := ⟨_, rfl⟩
        rw [hra]
        cases ra
        · have hf : Hid (Cm.okC c = false) := Lib.hid (okC_node HX.out (by simp [Cm.okN, hra]))
          clear hra
          go_wp2_with fail
          go_ret
          exact ⟨by rw [hf.out]; rfl, below_trans GW.out G3.out⟩
        have HA := Lib.hid hra; clear hra
        go_wp2_with fail
        refine (mayBeV ⟨b0, b1, b2⟩ _ _ _ R5.out).mono ?_
        rintro er w2 ⟨rfl, rfl⟩
        obtain ⟨rb, hrb⟩ : ∃ r, Cm.okV ⟨b0, b1, b2⟩ = r := ⟨_, rfl⟩
        rw [hrb]
        cases rb
        · have hf : Hid (Cm.okC c = false) := Lib.hid (okC_node HX.out (by simp [Cm.okN, hrb]))
          clear hrb
          go_wp2_with fail
          go_ret
          exact ⟨by rw [hf.out]; rfl, below_trans GW.out G3.out⟩
        have HB := Lib.hid hrb; clear hrb
        go_wp2_with fail
        refine (mayBeV ⟨c0, c1, c2⟩ _ _ _ R8.out).mono ?_
        rintro er w2 ⟨rfl, rfl⟩
        obtain ⟨rc, hrc⟩ : ∃ r, Cm.okV ⟨c0, c1, c2⟩ = r := ⟨_, rfl⟩
        rw [hrc]
        cases rc
        · have hf : Hid (Cm.okC c = false) := Lib.hid (okC_node HX.out (by simp [Cm.okN, hrc]))
          clear hrc
          go_wp2_with fail
          go_ret
          exact ⟨by rw [hf.out]; rfl, below_trans GW.out G3.out⟩
        have HC := Lib.hid hrc; clear hrc
        go_wp2_with fail
        go_roundw
        case rel => exact ⟨j + 1, rfl, by omega, by omega, hd.out.1.succ hj0 HX.out (by simp [Cm.okN, hpp.out, HT.out, HA.out, HB.out, HC.out]), G3.out⟩
        case measure => simp [intOf]; omega
      · have hp' : (p == -1) = false := by simpa using hp
        go_wp2_with (refine wpList_load_mid rfl 78 _ rfl nb oi rfl _ _ HR.out Try.underlying78 rfl node_len ?_)
        refine (mayBe1 _ _ _ (by simp)).mono ?_
        rintro er w0 ⟨rfl, hw0⟩
        have g0 : Below wr.heap.size wr w0 := hw0 ▸ two_below _ _ _
        have s1 : w0.cell? ⟨wr.heap.size, 1, none⟩ = some (.int .i64 t) := by
          rw [← hw0]
          exact (World.cell?_alloc_past (w := wr.alloc _) _ _ _ (by simp)).trans (World.cell?_alloc_at (w := wr) _ _ _ 1 rfl)
        have s2 : w0.rangeAt wr.heap.size 2 [.int .i64 a0, .int .i64 a1, .int .i64 a2] := hw0 ▸ node_at _ _ _ _ _ _ rfl rfl rfl
        have s5 : w0.rangeAt wr.heap.size 5 [.int .i64 b0, .int .i64 b1, .int .i64 b2] := hw0 ▸ node_at _ _ _ _ _ _ rfl rfl rfl
        have s8 : w0.rangeAt wr.heap.size 8 [.int .i64 c0, .int .i64 c1, .int .i64 c2] := hw0 ▸ node_at _ _ _ _ _ _ rfl rfl rfl
        have z0 : wr.heap.size < w0.heap.size := by rw [← hw0, World.size_alloc, World.size_alloc]; omega
        have G0 := Lib.hid (hd.out.2.trans (g0.mono hd.out.2.size)); have S2 := Lib.hid s2; have S5 := Lib.hid s5; have S8 := Lib.hid s8; have Z0 := Lib.hid z0
        clear g0 s2 s5 s8 hw0 z0 hi
        obtain ⟨rp, hrp⟩ : ∃ r, Cm.ok p = r := ⟨_, rfl⟩
        rw [hrp]
        cases rp
        · have hf : Hid (Cm.okC c = false) := Lib.hid (okC_node HX.out (okN_par (by show ¬ (-1 ≤ p ∧ p ≤ 1099511627776); rw [← Bool.not_eq_true, Cm.ok_iff] at hrp; omega)))
          clear hrp
          go_wp2_with fail
          go_ret
          exact ⟨by rw [hf.out]; rfl, below_trans GW.out G0.out⟩
        have hpp : Hid (Cm.okP p = true) := Lib.hid ((Cm.okP_iff p).2 (by rw [Cm.ok_iff] at hrp; omega))
        clear hrp
        go_wp2_with fail
        refine (mayBe1 _ _ _ (by simp)).mono ?_
        rintro er w1 ⟨rfl, hw1⟩
        have g3 : Below w0.heap.size w0 w1 := hw1 ▸ (Below.refl _ _).alloc (Nat.le_refl _) _
        have G3 := Lib.hid (G0.out.trans (g3.mono G0.out.size)); have R2 := Lib.hid (range_kept S2.out Z0.out g3); have R5 := Lib.hid (range_kept S5.out Z0.out g3); have R8 := Lib.hid (range_kept S8.out Z0.out g3)
        clear g3 hw1 s1
        obtain ⟨rt, hrt⟩ : ∃ r, Cm.ok t = r := ⟨_, rfl⟩
        rw [hrt]
        cases rt
        · have hf : Hid (Cm.okC c = false) := Lib.hid (okC_node HX.out (by simp [Cm.okN, hrt]))
          clear hrt
          go_wp2_with fail
          go_ret
          exact ⟨by rw [hf.out]; rfl, below_trans GW.out G3.out⟩
        have HT := Lib.hid hrt; clear hrt
        go_wp2_with fail
        refine (mayBeV ⟨a0, a1, a2⟩ _ _ _ R2.out).mono ?_
        rintro er w2 ⟨rfl, rfl⟩
        obtain ⟨ra, hra⟩ : ∃ r, Cm.okV ⟨a0, a1, a2⟩ = r := ⟨_, rfl⟩
        rw [hra]
        cases ra
        · have hf : Hid (Cm.okC c = false) := Lib.hid (okC_node HX.out (by simp [Cm.okN, hra]))
          clear hra
          go_wp2_with fail
          go_ret
          exact ⟨by rw [hf.out]; rfl, below_trans GW.out G3.out⟩
        have HA := Lib.hid hra; clear hra
        go_wp2_with fail
        refine (mayBeV ⟨b0, b1, b2⟩ _ _ _ R5.out).mono ?_
        rintro er w2 ⟨rfl, rfl⟩
        obtain ⟨rb, hrb⟩ : ∃ r, Cm.okV ⟨b0, b1, b2⟩ = r := ⟨_, rfl⟩
        rw [hrb]
        cases rb
        · have hf : Hid (Cm.okC c = false) := Lib.hid (okC_node HX.out (by simp [Cm.okN, hrb]))
          clear hrb
          go_wp2_with fail
          go_ret
          exact ⟨by rw [hf.out]; rfl, below_trans GW.out G3.out⟩
        have HB := Lib.hid hrb; clear hrb
        go_wp2_with fail
        refine (mayBeV ⟨c0, c1, c2⟩ _ _ _ R8.out).mono ?_
        rintro er w2 ⟨rfl, rfl⟩
        obtain ⟨rc, hrc⟩ : ∃ r, Cm.okV ⟨c0, c1, c2⟩ = r := ⟨_, rfl⟩
        rw [hrc]
        cases rc
        · have hf : Hid (Cm.okC c = false) := Lib.hid (okC_node HX.out (by simp [Cm.okN, hrc]))
          clear hrc
          go_wp2_with fail
          go_ret
          exact ⟨by rw [hf.out]; rfl, below_trans GW.out G3.out⟩
        have HC := Lib.hid hrc; clear hrc
        go_wp2_with fail
        go_roundw
        case rel => exact ⟨j + 1, rfl, by omega, by omega, hd.out.1.succ hj0 HX.out (by simp [Cm.okN, hpp.out, HT.out, HA.out, HB.out, HC.out]), G3.out⟩
        case measure => simp [intOf]; omega
    · have hall : Hid (c.nodes.all Cm.okN = true) := Lib.hid (hd.out.1.all (by have := HL.out.1; omega))
      have k1 := q1.out wr hd.out.2
      go_wp2_with fail
      clear k1
      have HD := Lib.hid hd.out.2
      clear hd
      go_loopw [55] (fun i wt => ∃ (j : Int), i = .int .i64 j ∧ 0 ≤ j ∧ j ≤ zh ∧ Hid (Upto Cm.okH c.hosts j ∧ Below W.heap.size W wt)) (fun i _ => (zh - intOf i).toNat)
      case atStart => exact ⟨0, rfl, by omega, by omega, Upto.zero _ _, HD.out⟩
      case round =>
        obtain ⟨j, rfl, hj0, hjz, hd⟩ := hrel
        by_cases hlt : j < zh
        · obtain ⟨x, hx⟩ : ∃ x, c.hosts[j.toNat]? = some x := ⟨_, List.getElem?_eq_getElem (by have := HL.out.2.1; omega)⟩
          have hi := HHI.out j.toNat (by omega)
          rw [show ((j.toNat : Nat) : Int) = j by omega] at hi
          have hr := ((HH.out.kept GW.out).kept hd.out.2).at_ j.toNat x hx
          obtain ⟨f, l, r, ⟨a0, a1, a2⟩⟩ := x
          have HR := Lib.hid hr; have HX := Lib.hid hx
          clear hr hx
          simp only [Hs.c] at HR
          obtain ⟨oi, hoi⟩ : ∃ n, ho + j.toNat * 6 = n := ⟨_, rfl⟩
          rw [hoi] at hi HR
          clear hoi
          go_wp2_with (refine wpList_load_mid rfl 81 _ rfl hb oi rfl _ _ HR.out Try.underlying81 rfl host_len ?_)
          refine (mayBe3 _ _ _ _ _ (by simp)).mono ?_
          rintro er w1 ⟨rfl, hw1⟩
          have g3 : Below wr.heap.size wr w1 := hw1 ▸ two_below _ _ _
          have r2 : w1.rangeAt wr.heap.size 3 [.int .i64 a0, .int .i64 a1, .int .i64 a2] := hw1 ▸ node_at _ _ _ _ _ _ rfl rfl rfl
          have G3 := Lib.hid (hd.out.2.trans (g3.mono hd.out.2.size)); have R2 := Lib.hid r2
          clear g3 r2 hw1 hi
          obtain ⟨rt, hrt⟩ : ∃ b, (Cm.ok f && Cm.ok l && Cm.ok r) = b := ⟨_, rfl⟩
          rw [hrt]
          cases rt
          · have hf : Hid (Cm.okC c = false) := Lib.hid (okC_host HX.out (by simp [Cm.okH, hrt]))
            clear hrt
            go_wp2_with fail
            go_ret
            exact ⟨by rw [hf.out]; rfl, below_trans GW.out G3.out⟩
          have HT := Lib.hid hrt; clear hrt
          go_wp2_with fail
          refine (mayBeV ⟨a0, a1, a2⟩ _ _ _ R2.out).mono ?_
          rintro er w2 ⟨rfl, rfl⟩
          obtain ⟨ra, hra⟩ : ∃ r, Cm.okV ⟨a0, a1, a2⟩ = r := ⟨_, rfl⟩
          rw [hra]
          cases ra
          · have hf : Hid (Cm.okC c = false) := Lib.hid (okC_host HX.out (by simp [Cm.okH, hra]))
            clear hra
            go_wp2_with fail
            go_ret
            exact ⟨by rw [hf.out]; rfl, below_trans GW.out G3.out⟩
          have HA := Lib.hid hra; clear hra
          go_wp2_with fail
          go_roundw
          case rel => exact ⟨j + 1, rfl, by omega, by omega, hd.out.1.succ hj0 HX.out (by simp [Cm.okH, HT.out, HA.out]), G3.out⟩
          case measure => simp [intOf]; omega
        · have hall2 : Hid (c.hosts.all Cm.okH = true) := Lib.hid (hd.out.1.all (by have := HL.out.2.1; omega))
          have k2 := q2.out wr hd.out.2
          have k3 := q3.out wr hd.out.2
          go_wp2_with fail
          refine (mayBe2 _ _ _ _ (by simp)).mono ?_
          rintro er w1 ⟨rfl, hw1⟩
          have g1 : Below wr.heap.size wr w1 := hw1 ▸ (Below.refl _ _).alloc (Nat.le_refl _) _
          have G1 := Lib.hid (hd.out.2.trans (g1.mono hd.out.2.size))
          clear g1 hw1 k2 k3
          have hf : Hid (Cm.okC c = (Cm.ok ha && Cm.ok ag)) := Lib.hid (by rw [Cm.okC, hall.out, hall2.out, HL.out.2.2.1, HL.out.2.2.2]; simp)
          obtain ⟨r, hr⟩ : ∃ r, (Cm.ok ha && Cm.ok ag) = r := ⟨_, rfl⟩
          rw [hr] at hf ⊢
          clear hr
          go_wp2_with fail
          go_ret
          exact ⟨by rw [hf.out]; rfl, below_trans GW.out G1.out⟩

end Go.Proofs.Ytpnfhcpapjomnaa

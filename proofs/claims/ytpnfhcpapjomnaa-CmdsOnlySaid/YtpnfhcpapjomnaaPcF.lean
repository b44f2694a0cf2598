/- The landed commands: a configuration's bytes. -/
import Derived.Test.YtpnfhcpapjomnaaPcE
import Derived.Test.YtpnfhcpapjomnaaCmdF
namespace Go.Proofs.Ytpnfhcpapjomnaa
open Go.RowKit
set_option linter.unusedVariables false

/-- What is written so far. -/
structure PcSo (w : World) (C4 : Array Value) (acc : ByteArray) (wr : World) : Prop where
  bld : Bld w.heap.size (w.heap.size + 1) acc wr
  cfg : Row wr w.heap.size C4 25
  low : Below w.heap.size w wr
theorem PcSo.call {w wr w' : World} {C4 : Array Value} {acc : ByteArray} (h : PcSo w C4 acc wr) (g : Below wr.heap.size wr w') : PcSo w C4 acc w' := ⟨h.bld.below g, h.cfg.under g, h.low.trans (g.mono h.low.size)⟩
theorem PcSo.write {w wr w' : World} {C4 : Array Value} {acc acc' : ByteArray} (h : PcSo w C4 acc wr) (b : Bld w.heap.size (w.heap.size + 1) acc' w') (g : Below w.heap.size wr w') (t : Typed wr w') : PcSo w C4 acc' w' := ⟨b, t _ _ _ (by decide) (by decide) h.cfg, h.low.trans g⟩
theorem PcSo.start (w : World) (C4 : Array Value) : PcSo w C4 ⟨#[]⟩ ((w.alloc (.cells C4 25)).alloc (.cells #[.pointer none, .slice none 0 0] 72)) := by
  have h := bld_new (w.alloc (.cells C4 25)) w.heap.size (by simp)
  rw [World.size_alloc] at h
  exact ⟨h, (Row.new w C4 _).under ((Below.refl _ _).alloc (Nat.le_refl _) _), two_below _ _ _⟩
theorem size_pre {a b c : ByteArray} (h : a ++ b = c) : a.size ≤ c.size := by rw [← h, ByteArray.size_append]; omega

set_option maxHeartbeats 2000000 in
set_option maxRecDepth 8000 in
theorem putConfig_any (c : Cmd) (hok : Cm.okC c = true) (hn12 : c.nodes.length ≤ 12) (hh24 : c.hosts.length ≤ 24) (an ah : Option Addr) (cn ch nb no hb ho : Nat) (w : World) (hN : Sl Nd.c 22 11 w an cn nb no c.nodes) (hH : Sl Hs.c 23 6 w ah ch hb ho c.hosts) :
    Calls Try.prog 19 #[.agg #[.slice an c.nodes.length cn, .slice ah c.hosts.length ch, .int .i64 c.half, .int .i64 c.age]] w (RetBelow (.string (Cm.pC c)) w) := by
  have hNi := hN.idx
  have hHi := hH.idx
  have hpC := Cm.pC_size hok hn12 hh24
  have hCC : Cm.pC c = Cm.pn c.nodes.length ++ Cm.cat Cm.pN c.nodes (Cm.pn c.hosts.length ++ Cm.cat Cm.pH c.hosts (Cm.pn c.half ++ Cm.pn c.age)) := rfl
  simp only [Cm.okC, Bool.and_eq_true] at hok
  obtain ⟨kind, nodes, hosts, half, age, gang, n⟩ := c
  simp only at *
  obtain ⟨⟨⟨kN, kH⟩, kh⟩, ka⟩ := hok
  rw [Cm.ok_iff] at kh ka
  obtain ⟨PC, hPC⟩ : ∃ p, Cm.pC ⟨kind, nodes, hosts, half, age, gang, n⟩ = p := ⟨_, rfl⟩
  rw [hPC] at hpC hCC ⊢
  clear hPC
  obtain ⟨nl, hnl⟩ : ∃ n, nodes.length = n := ⟨_, rfl⟩
  obtain ⟨hl, hhl⟩ : ∃ n, hosts.length = n := ⟨_, rfl⟩
  rw [hnl] at hNi hn12 hCC ⊢
  rw [hhl] at hHi hh24 hCC ⊢
  obtain ⟨zn, hzn⟩ : ∃ z : Int, (nl : Int) = z := ⟨_, rfl⟩
  obtain ⟨zh, hzh⟩ : ∃ z : Int, (hl : Int) = z := ⟨_, rfl⟩
  rw [hzn, hzh] at hCC
  have hz12 : 0 ≤ zn ∧ zn ≤ 12 := by omega
  have hz24 : 0 ≤ zh ∧ zh ≤ 24 := by omega
  have c0 := fun w => cPn_any zn (by omega) (by omega) w
  have c1 := fun w => cPn_any zh (by omega) (by omega) w
  have c2 := fun w => cPn_any half (by omega) (by omega) w
  have c3 := fun w => cPn_any age (by omega) (by omega) w
  have z0 := Cm.pn_size zn (by omega)
  have z1 := Cm.pn_size zh (by omega)
  have z2 := Cm.pn_size half (by omega)
  have z3 := Cm.pn_size age (by omega)
  obtain ⟨p0, e0⟩ : ∃ p, Cm.pn zn = p := ⟨_, rfl⟩
  obtain ⟨p1, e1⟩ : ∃ p, Cm.pn zh = p := ⟨_, rfl⟩
  obtain ⟨p2, e2⟩ : ∃ p, Cm.pn half = p := ⟨_, rfl⟩
  obtain ⟨p3, e3⟩ : ∃ p, Cm.pn age = p := ⟨_, rfl⟩
  rw [e0] at c0 z0 hCC
  rw [e1] at c1 z1 hCC
  rw [e2] at c2 z2 hCC
  rw [e3] at c3 z3 hCC
  clear e0 e1 e2 e3 kh ka
  obtain ⟨R2, hR2⟩ : ∃ r, Cm.cat Cm.pH hosts (p2 ++ p3) = r := ⟨_, rfl⟩
  obtain ⟨R1, hR1⟩ : ∃ r, p1 ++ R2 = r := ⟨_, rfl⟩
  rw [hR2, hR1] at hCC
  obtain ⟨ha, hha⟩ : ∃ z, half = z := ⟨_, rfl⟩
  obtain ⟨ag, hag⟩ : ∃ z, age = z := ⟨_, rfl⟩
  rw [hha] at c2 ⊢
  rw [hag] at c3 ⊢
  clear hha hag
  have HNI := Lib.hid hNi; have HHI := Lib.hid hHi; have HN := Lib.hid hN; have HH := Lib.hid hH; have HCC := Lib.hid hCC; have HSZ := Lib.hid hpC
  have HL := Lib.hid (And.intro hnl hhl); have KN := Lib.hid kN; have KH := Lib.hid kH; have ZZ := Lib.hid (And.intro z0 (And.intro z1 (And.intro z2 z3)))
  have HR1 := Lib.hid hR1; have HR2 := Lib.hid hR2
  have C0 := Lib.hid c0; have C1 := Lib.hid c1; have C2 := Lib.hid c2; have C3 := Lib.hid c3
  have S0 := Lib.hid (PcSo.start w #[.slice an nl cn, .slice ah hl ch, .int .i64 ha, .int .i64 ag])
  have LW := Lib.hid (two_below w (.cells #[.slice an nl cn, .slice ah hl ch, .int .i64 ha, .int .i64 ag] 25) (.cells #[.pointer none, .slice none 0 0] 72))
  clear hNi hHi hN hH hCC hpC hnl hhl kN kH z0 z1 z2 z3 hR1 hR2 c0 c1 c2 c3 hn12 hh24
  obtain ⟨hz0, hz12⟩ := hz12
  obtain ⟨hy0, hz24⟩ := hz24
  go_enter Try.func19, Try.ntmps19
  go_wp2_with fail
  refine (C0.out _).mono ?_
  rintro er wAa ⟨rfl, bA⟩
  have SAa := Lib.hid (S0.out.call bA); clear bA
  go_wp2_with fail
  refine (WriteString_t SAa.out.bld _ (by have := ZZ.out; show 0 + p0.size ≤ _; omega) SAa.out.low.size).mono ?_
  rintro er wAb ⟨rfl, blB, gB, tB⟩
  have SAb := Lib.hid (SAa.out.write blB gB tB); clear blB gB tB
  have i0 : Hid ((⟨#[]⟩ ++ p0) ++ Cm.cat Cm.pN nodes R1 = PC) := Lib.hid (by rw [ba_none]; exact HCC.out.symm)
  have k0 : wAb.cell? ⟨w.heap.size, 0, none⟩ = some (.slice an nl cn) := SAb.out.cfg.at_ 0
  go_wp2_with fail
  clear k0
  go_loopw [16] (fun i wr => ∃ (j : Int) (acc : ByteArray), i = .int .i64 j ∧ 0 ≤ j ∧ j ≤ zn ∧ Hid (PcSo w #[.slice an nl cn, .slice ah hl ch, .int .i64 ha, .int .i64 ag] acc wr ∧ acc ++ Cm.cat Cm.pN (nodes.drop j.toNat) R1 = PC)) (fun i _ => (zn - intOf i).toNat)
  case atStart => exact ⟨0, _, rfl, by omega, by omega, SAb.out, i0.out⟩
  case round =>
    obtain ⟨j, acc, rfl, hj0, hjz, hd⟩ := hrel
    by_cases hlt : j < zn
    · obtain ⟨x, hx⟩ : ∃ x, nodes[j.toNat]? = some x := ⟨_, List.getElem?_eq_getElem (by have := HL.out.1; omega)⟩
      have hi := HNI.out j.toNat (by omega)
      rw [show ((j.toNat : Nat) : Int) = j by omega] at hi
      have hr := (HN.out.from (B := w.heap.size) (Nat.le_refl _) hd.out.1.low).at_ j.toNat x hx
      have hcat := hd.out.2
      rw [drop_more hx, Cm.cat] at hcat
      have hxo := all_at KN.out hx
      have hpN : Cm.pN x = Cm.pn (x.par + 1) ++ (Cm.pn x.wt ++ (Cm.pv x.nom ++ (Cm.pv x.bor ++ Cm.pv x.lend))) := rfl
      have xo := hxo
      simp only [Cm.okN, Bool.and_eq_true, Cm.ok_iff, Cm.okP_iff] at xo
      obtain ⟨⟨⟨⟨o0, o1⟩, o2⟩, o3⟩, o4⟩ := xo
      have d0 := fun w => cPn_any (x.par + 1) (by omega) (by omega) w
      have d1 := fun w => cPn_any x.wt (by omega) (by omega) w
      have d2 := fun w => cPv_any x.nom o2 w
      have d3 := fun w => cPv_any x.bor o3 w
      have d4 := fun w => cPv_any x.lend o4 w
      have y0 := Cm.pn_size (x.par + 1) (by omega)
      have y1 := Cm.pn_size x.wt (by omega)
      have y2 := Cm.pv_size o2
      have y3 := Cm.pv_size o3
      have y4 := Cm.pv_size o4
      obtain ⟨q0, e0⟩ : ∃ p, Cm.pn (x.par + 1) = p := ⟨_, rfl⟩
      obtain ⟨q1, e1⟩ : ∃ p, Cm.pn x.wt = p := ⟨_, rfl⟩
      obtain ⟨q2, e2⟩ : ∃ p, Cm.pv x.nom = p := ⟨_, rfl⟩
      obtain ⟨q3, e3⟩ : ∃ p, Cm.pv x.bor = p := ⟨_, rfl⟩
      obtain ⟨q4, e4⟩ : ∃ p, Cm.pv x.lend = p := ⟨_, rfl⟩
      rw [e0] at d0 y0 hpN
      rw [e1] at d1 y1 hpN
      rw [e2] at d2 y2 hpN
      rw [e3] at d3 y3 hpN
      rw [e4] at d4 y4 hpN
      clear e0 e1 e2 e3 e4 o2 o3 o4
      rw [hpN] at hcat
      have hsz := size_pre hcat
      obtain ⟨p, t, ⟨a0, a1, a2⟩, ⟨b0, b1, b2⟩, ⟨c0, c1, c2⟩⟩ := x
      simp only at d0 d1 d2 d3 d4 o0 o1
      obtain ⟨o00, o01⟩ := o0
      obtain ⟨o10, o11⟩ := o1
      have hsub : p - -1 = p + 1 := by omega
      have HR := Lib.hid hr; have HX := Lib.hid hx; have HCAT := Lib.hid hcat; have YY := Lib.hid (And.intro (Nat.le_trans hsz HSZ.out) (And.intro y0 (And.intro y1 (And.intro y2 (And.intro y3 y4)))))
      have D0 := Lib.hid d0; have D1 := Lib.hid d1; have D2 := Lib.hid d2; have D3 := Lib.hid d3; have D4 := Lib.hid d4; have SJ := Lib.hid hd.out.1
      clear hr hx hcat hpN hxo hsz y0 y1 y2 y3 y4 d0 d1 d2 d3 d4 hd
      simp only [Nd.c] at HR
      obtain ⟨oi, hoi⟩ : ∃ n, no + j.toNat * 11 = n := ⟨_, rfl⟩
      rw [hoi] at hi HR
      clear hoi
      have E0 := Lib.hid (Row.new wr #[.int .i64 p, .int .i64 t, .int .i64 a0, .int .i64 a1, .int .i64 a2, .int .i64 b0, .int .i64 b1, .int .i64 b2, .int .i64 c0, .int .i64 c1, .int .i64 c2] 78)
      have SE := Lib.hid (SJ.out.call ((Below.refl _ _).alloc (Nat.le_refl _) (.cells #[.int .i64 p, .int .i64 t, .int .i64 a0, .int .i64 a1, .int .i64 a2, .int .i64 b0, .int .i64 b1, .int .i64 b2, .int .i64 c0, .int .i64 c1, .int .i64 c2] 78)))
      go_wp2_with (refine wpList_load_mid rfl 78 _ rfl nb oi rfl _ _ HR.out Try.underlying78 rfl node_len ?_)
      refine (D0.out _).mono ?_
      rintro er wCa ⟨rfl, bA⟩
      have SCa := Lib.hid (SE.out.call bA); have RCa := Lib.hid (E0.out.under bA); clear bA
      go_wp2_with fail
      refine (WriteString_t SCa.out.bld _ (by have := YY.out; (try simp only [ByteArray.size_append]); omega) SCa.out.low.size).mono ?_
      rintro er wCb ⟨rfl, blB, gB, tB⟩
      have SCb := Lib.hid (SCa.out.write blB gB tB); have RCb := Lib.hid (tB _ _ _ (by decide) (by decide) RCa.out); clear blB gB tB
      have k1 : wCb.cell? ⟨wr.heap.size, 1, none⟩ = some (.int .i64 t) := RCb.out.at_ 1
      go_wp2_with fail
      refine (D1.out _).mono ?_
      rintro er wDa ⟨rfl, bA⟩
      have SDa := Lib.hid (SCb.out.call bA); have RDa := Lib.hid (RCb.out.under bA); clear bA k1
      go_wp2_with fail
      refine (WriteString_t SDa.out.bld _ (by have := YY.out; (try simp only [ByteArray.size_append]); omega) SDa.out.low.size).mono ?_
      rintro er wDb ⟨rfl, blB, gB, tB⟩
      have SDb := Lib.hid (SDa.out.write blB gB tB); have RDb := Lib.hid (tB _ _ _ (by decide) (by decide) RDa.out); clear blB gB tB
      have k2 : wDb.cell? ⟨wr.heap.size, 2, none⟩ = some (.int .i64 a0) := RDb.out.at_ 2
      have k3 : wDb.cell? ⟨wr.heap.size, 3, none⟩ = some (.int .i64 a1) := RDb.out.at_ 3
      have k4 : wDb.cell? ⟨wr.heap.size, 4, none⟩ = some (.int .i64 a2) := RDb.out.at_ 4
      go_wp2_with fail
      refine (D2.out _).mono ?_
      rintro er wEa ⟨rfl, bA⟩
      have SEa := Lib.hid (SDb.out.call bA); have REa := Lib.hid (RDb.out.under bA); clear bA k2 k3 k4
      go_wp2_with fail
      refine (WriteString_t SEa.out.bld _ (by have := YY.out; (try simp only [ByteArray.size_append]); omega) SEa.out.low.size).mono ?_
      rintro er wEb ⟨rfl, blB, gB, tB⟩
      have SEb := Lib.hid (SEa.out.write blB gB tB); have REb := Lib.hid (tB _ _ _ (by decide) (by decide) REa.out); clear blB gB tB
      have k5 : wEb.cell? ⟨wr.heap.size, 5, none⟩ = some (.int .i64 b0) := REb.out.at_ 5
      have k6 : wEb.cell? ⟨wr.heap.size, 6, none⟩ = some (.int .i64 b1) := REb.out.at_ 6
      have k7 : wEb.cell? ⟨wr.heap.size, 7, none⟩ = some (.int .i64 b2) := REb.out.at_ 7
      go_wp2_with fail
      refine (D3.out _).mono ?_
      rintro er wFa ⟨rfl, bA⟩
      have SFa := Lib.hid (SEb.out.call bA); have RFa := Lib.hid (REb.out.under bA); clear bA k5 k6 k7
      go_wp2_with fail
      refine (WriteString_t SFa.out.bld _ (by have := YY.out; (try simp only [ByteArray.size_append]); omega) SFa.out.low.size).mono ?_
      rintro er wFb ⟨rfl, blB, gB, tB⟩
      have SFb := Lib.hid (SFa.out.write blB gB tB); have RFb := Lib.hid (tB _ _ _ (by decide) (by decide) RFa.out); clear blB gB tB
      have k8 : wFb.cell? ⟨wr.heap.size, 8, none⟩ = some (.int .i64 c0) := RFb.out.at_ 8
      have k9 : wFb.cell? ⟨wr.heap.size, 9, none⟩ = some (.int .i64 c1) := RFb.out.at_ 9
      have k10 : wFb.cell? ⟨wr.heap.size, 10, none⟩ = some (.int .i64 c2) := RFb.out.at_ 10
      go_wp2_with fail
      refine (D4.out _).mono ?_
      rintro er wGa ⟨rfl, bA⟩
      have SGa := Lib.hid (SFb.out.call bA); have RGa := Lib.hid (RFb.out.under bA); clear bA k8 k9 k10
      go_wp2_with fail
      refine (WriteString_t SGa.out.bld _ (by have := YY.out; (try simp only [ByteArray.size_append]); omega) SGa.out.low.size).mono ?_
      rintro er wGb ⟨rfl, blB, gB, tB⟩
      have SGb := Lib.hid (SGa.out.write blB gB tB); have RGb := Lib.hid (tB _ _ _ (by decide) (by decide) RGa.out); clear blB gB tB
      go_wp2_with fail
      go_roundw
      case rel =>
        refine ⟨j + 1, _, rfl, by omega, by omega, SGb.out, ?_⟩
        rw [show (j + 1).toNat = j.toNat + 1 by omega]
        have h := HCAT.out
        simp only [ba_cat] at h ⊢
        exact h
      case measure => simp [intOf]; omega
    · have hfin : Hid (acc ++ R1 = PC) := Lib.hid (by
        have h := hd.out.2
        rwa [List.drop_eq_nil_of_le (by have := HL.out.1; omega), Cm.cat] at h)
      have SJ := Lib.hid hd.out.1
      have k1 : wr.cell? ⟨w.heap.size, 1, none⟩ = some (.slice ah hl ch) := SJ.out.cfg.at_ 1
      clear hd
      go_wp2_with fail
      refine (C1.out _).mono ?_
      rintro er wHa ⟨rfl, bA⟩
      have SHa := Lib.hid (SJ.out.call bA); clear bA k1
      go_wp2_with fail
      refine (WriteString_t SHa.out.bld _ (by have := ZZ.out; have := size_pre hfin.out; have := HSZ.out; omega) SHa.out.low.size).mono ?_
      rintro er wHb ⟨rfl, blB, gB, tB⟩
      have SHb := Lib.hid (SHa.out.write blB gB tB); clear blB gB tB
      have i1 : Hid ((acc ++ p1) ++ Cm.cat Cm.pH hosts (p2 ++ p3) = PC) := Lib.hid (by rw [ba_cat, HR2.out, HR1.out]; exact hfin.out)
      have k0 : wHb.cell? ⟨w.heap.size, 1, none⟩ = some (.slice ah hl ch) := SHb.out.cfg.at_ 1
      go_wp2_with fail
      clear k0
      go_loopw [50] (fun i wr => ∃ (j : Int) (acc : ByteArray), i = .int .i64 j ∧ 0 ≤ j ∧ j ≤ zh ∧ Hid (PcSo w #[.slice an nl cn, .slice ah hl ch, .int .i64 ha, .int .i64 ag] acc wr ∧ acc ++ Cm.cat Cm.pH (hosts.drop j.toNat) (p2 ++ p3) = PC)) (fun i _ => (zh - intOf i).toNat)
      case atStart => exact ⟨0, _, rfl, by omega, by omega, SHb.out, i1.out⟩
      case round =>
        obtain ⟨j, acc2, rfl, hj0, hjz, hd⟩ := hrel
        by_cases hlt : j < zh
        · obtain ⟨x, hx⟩ : ∃ x, hosts[j.toNat]? = some x := ⟨_, List.getElem?_eq_getElem (by have := HL.out.2; omega)⟩
          have hi := HHI.out j.toNat (by omega)
          rw [show ((j.toNat : Nat) : Int) = j by omega] at hi
          have hr := (HH.out.from (B := w.heap.size) (Nat.le_refl _) hd.out.1.low).at_ j.toNat x hx
          have hcat := hd.out.2
          rw [drop_more hx, Cm.cat] at hcat
          have hxo := all_at KH.out hx
          have hpN : Cm.pH x = Cm.pn x.fl ++ (Cm.pn x.bl ++ (Cm.pn x.ra ++ Cm.pv x.cap)) := rfl
          have xo := hxo
          simp only [Cm.okH, Bool.and_eq_true, Cm.ok_iff] at xo
          obtain ⟨⟨⟨o0, o1⟩, o2⟩, o3⟩ := xo
          have d0 := fun w => cPn_any x.fl (by omega) (by omega) w
          have d1 := fun w => cPn_any x.bl (by omega) (by omega) w
          have d2 := fun w => cPn_any x.ra (by omega) (by omega) w
          have d3 := fun w => cPv_any x.cap o3 w
          have y0 := Cm.pn_size x.fl (by omega)
          have y1 := Cm.pn_size x.bl (by omega)
          have y2 := Cm.pn_size x.ra (by omega)
          have y3 := Cm.pv_size o3
          obtain ⟨q0, e0⟩ : ∃ p, Cm.pn x.fl = p := ⟨_, rfl⟩
          obtain ⟨q1, e1⟩ : ∃ p, Cm.pn x.bl = p := ⟨_, rfl⟩
          obtain ⟨q2, e2⟩ : ∃ p, Cm.pn x.ra = p := ⟨_, rfl⟩
          obtain ⟨q3, e3⟩ : ∃ p, Cm.pv x.cap = p := ⟨_, rfl⟩
          rw [e0] at d0 y0 hpN
          rw [e1] at d1 y1 hpN
          rw [e2] at d2 y2 hpN
          rw [e3] at d3 y3 hpN
          clear e0 e1 e2 e3 o0 o1 o2 o3
          rw [hpN] at hcat
          have hsz := size_pre hcat
          obtain ⟨f, l, r, ⟨a0, a1, a2⟩⟩ := x
          simp only at d0 d1 d2 d3
          have HR := Lib.hid hr; have HX := Lib.hid hx; have HCAT := Lib.hid hcat; have YY := Lib.hid (And.intro (Nat.le_trans hsz HSZ.out) (And.intro y0 (And.intro y1 (And.intro y2 y3))))
          have D0 := Lib.hid d0; have D1 := Lib.hid d1; have D2 := Lib.hid d2; have D3 := Lib.hid d3; have SJ2 := Lib.hid hd.out.1
          clear hr hx hcat hpN hxo hsz y0 y1 y2 y3 d0 d1 d2 d3 hd
          simp only [Hs.c] at HR
          obtain ⟨oi, hoi⟩ : ∃ n, ho + j.toNat * 6 = n := ⟨_, rfl⟩
          rw [hoi] at hi HR
          clear hoi
          have E0 := Lib.hid (Row.new wr #[.int .i64 f, .int .i64 l, .int .i64 r, .int .i64 a0, .int .i64 a1, .int .i64 a2] 81)
          have SE := Lib.hid (SJ2.out.call ((Below.refl _ _).alloc (Nat.le_refl _) (.cells #[.int .i64 f, .int .i64 l, .int .i64 r, .int .i64 a0, .int .i64 a1, .int .i64 a2] 81)))
          go_wp2_with (refine wpList_load_mid rfl 81 _ rfl hb oi rfl _ _ HR.out Try.underlying81 rfl host_len ?_)
          refine (D0.out _).mono ?_
          rintro er wIa ⟨rfl, bA⟩
          have SIa := Lib.hid (SE.out.call bA); have RIa := Lib.hid (E0.out.under bA); clear bA
          go_wp2_with fail
          refine (WriteString_t SIa.out.bld _ (by have := YY.out; (try simp only [ByteArray.size_append]); omega) SIa.out.low.size).mono ?_
          rintro er wIb ⟨rfl, blB, gB, tB⟩
          have SIb := Lib.hid (SIa.out.write blB gB tB); have RIb := Lib.hid (tB _ _ _ (by decide) (by decide) RIa.out); clear blB gB tB
          have k1 : wIb.cell? ⟨wr.heap.size, 1, none⟩ = some (.int .i64 l) := RIb.out.at_ 1
          go_wp2_with fail
          refine (D1.out _).mono ?_
          rintro er wJa ⟨rfl, bA⟩
          have SJa := Lib.hid (SIb.out.call bA); have RJa := Lib.hid (RIb.out.under bA); clear bA k1
          go_wp2_with fail
          refine (WriteString_t SJa.out.bld _ (by have := YY.out; (try simp only [ByteArray.size_append]); omega) SJa.out.low.size).mono ?_
          rintro er wJb ⟨rfl, blB, gB, tB⟩
          have SJb := Lib.hid (SJa.out.write blB gB tB); have RJb := Lib.hid (tB _ _ _ (by decide) (by decide) RJa.out); clear blB gB tB
          have k2 : wJb.cell? ⟨wr.heap.size, 2, none⟩ = some (.int .i64 r) := RJb.out.at_ 2
          go_wp2_with fail
          refine (D2.out _).mono ?_
          rintro er wKa ⟨rfl, bA⟩
          have SKa := Lib.hid (SJb.out.call bA); have RKa := Lib.hid (RJb.out.under bA); clear bA k2
          go_wp2_with fail
          refine (WriteString_t SKa.out.bld _ (by have := YY.out; (try simp only [ByteArray.size_append]); omega) SKa.out.low.size).mono ?_
          rintro er wKb ⟨rfl, blB, gB, tB⟩
          have SKb := Lib.hid (SKa.out.write blB gB tB); have RKb := Lib.hid (tB _ _ _ (by decide) (by decide) RKa.out); clear blB gB tB
          have k3 : wKb.cell? ⟨wr.heap.size, 3, none⟩ = some (.int .i64 a0) := RKb.out.at_ 3
          have k4 : wKb.cell? ⟨wr.heap.size, 4, none⟩ = some (.int .i64 a1) := RKb.out.at_ 4
          have k5 : wKb.cell? ⟨wr.heap.size, 5, none⟩ = some (.int .i64 a2) := RKb.out.at_ 5
          go_wp2_with fail
          refine (D3.out _).mono ?_
          rintro er wLa ⟨rfl, bA⟩
          have SLa := Lib.hid (SKb.out.call bA); have RLa := Lib.hid (RKb.out.under bA); clear bA k3 k4 k5
          go_wp2_with fail
          refine (WriteString_t SLa.out.bld _ (by have := YY.out; (try simp only [ByteArray.size_append]); omega) SLa.out.low.size).mono ?_
          rintro er wLb ⟨rfl, blB, gB, tB⟩
          have SLb := Lib.hid (SLa.out.write blB gB tB); have RLb := Lib.hid (tB _ _ _ (by decide) (by decide) RLa.out); clear blB gB tB
          go_wp2_with fail
          go_roundw
          case rel =>
            refine ⟨j + 1, _, rfl, by omega, by omega, SLb.out, ?_⟩
            rw [show (j + 1).toNat = j.toNat + 1 by omega]
            have h := HCAT.out
            simp only [ba_cat] at h ⊢
            exact h
          case measure => simp [intOf]; omega
        · have hfin2 : Hid (acc2 ++ (p2 ++ p3) = PC) := Lib.hid (by
            have h := hd.out.2
            rwa [List.drop_eq_nil_of_le (by have := HL.out.2; omega), Cm.cat] at h)
          have SJ2 := Lib.hid hd.out.1
          have k2 : wr.cell? ⟨w.heap.size, 2, none⟩ = some (.int .i64 ha) := SJ2.out.cfg.at_ 2
          clear hd
          go_wp2_with fail
          refine (C2.out _).mono ?_
          rintro er wMa ⟨rfl, bA⟩
          have SMa := Lib.hid (SJ2.out.call bA); clear bA k2
          go_wp2_with fail
          refine (WriteString_t SMa.out.bld _ (by have := ZZ.out; have := size_pre hfin2.out; have := HSZ.out; omega) SMa.out.low.size).mono ?_
          rintro er wMb ⟨rfl, blB, gB, tB⟩
          have SMb := Lib.hid (SMa.out.write blB gB tB); clear blB gB tB
          have k3 : wMb.cell? ⟨w.heap.size, 3, none⟩ = some (.int .i64 ag) := SMb.out.cfg.at_ 3
          go_wp2_with fail
          refine (C3.out _).mono ?_
          rintro er wNa ⟨rfl, bA⟩
          have SNa := Lib.hid (SMb.out.call bA); clear bA k3
          go_wp2_with fail
          refine (WriteString_t SNa.out.bld _ (by have := ZZ.out; have := size_pre hfin2.out; have := HSZ.out; simp only [ByteArray.size_append]; omega) SNa.out.low.size).mono ?_
          rintro er wNb ⟨rfl, blB, gB, tB⟩
          have SNb := Lib.hid (SNa.out.write blB gB tB); clear blB gB tB
          go_wp2_with fail
          refine (String_any SNb.out.bld SNb.out.low.size).mono ?_
          rintro er wz ⟨rfl, bz⟩
          have LZ := Lib.hid (SNb.out.low.trans bz); clear bz
          have FE : Hid (acc2 ++ p2 ++ p3 = PC) := Lib.hid (by rw [ba_cat]; exact hfin2.out)
          go_wp2_with fail
          go_ret
          exact ⟨by rw [FE.out]; rfl, LZ.out⟩

end Go.Proofs.Ytpnfhcpapjomnaa

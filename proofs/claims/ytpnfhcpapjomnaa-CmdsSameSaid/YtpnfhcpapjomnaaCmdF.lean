/- The plain answer's bytes of a command. -/
import Derived.Test.YtpnfhcpapjomnaaCmdE
namespace Go.Proofs.Ytpnfhcpapjomnaa
open Go.RowKit
set_option linter.unusedVariables false

theorem drop_more {α : Type} {l : List α} {k : Nat} {x : α} (h : l[k]? = some x) : l.drop k = x :: l.drop (k + 1) := by
  have hk : k < l.length := by
    rcases Nat.lt_or_ge k l.length with q | q
    · exact q
    · rw [List.getElem?_eq_none q] at h; cases h
  rw [List.drop_eq_getElem_cons hk]
  rw [List.getElem?_eq_getElem hk] at h
  injection h with h
  rw [h]
theorem all_at {α : Type} {o : α → Bool} {l : List α} {k : Nat} {x : α} (h : l.all o = true) (hx : l[k]? = some x) : o x = true := List.all_eq_true.1 h x (List.mem_of_getElem? hx)

theorem check_all {c : Cmd} (h : Cm.check c = 0) : (c.kind = 1 → Cm.okC c = true) ∧ (c.kind = 2 → Cm.okG c.gang = true) ∧ (c.kind = 3 ∨ c.kind = 4 ∨ c.kind = 5 → Cm.ok c.n = true) := by
  have hf := (Cm.check_zero h).1
  unfold Cm.fine at hf
  refine ⟨fun k => ?_, fun k => ?_, fun k => ?_⟩
  · rw [if_pos k] at hf; simp only [Bool.and_eq_true] at hf; exact hf.2
  · rw [if_neg (by omega), if_pos k] at hf; simp only [Bool.and_eq_true] at hf; exact hf.2
  · rw [if_neg (by omega), if_neg (by omega), if_pos k] at hf; simp only [Bool.and_eq_true] at hf; exact hf.2

set_option maxHeartbeats 2000000 in
set_option maxRecDepth 8000 in
theorem rPutCmd_any (c : Cmd) (hc : Cm.check c = 0) (an ah : Option Addr) (cn ch nb no hb ho : Nat) (w : World) (hN : Sl Nd.c 22 11 w an cn nb no c.nodes) (hH : Sl Hs.c 23 6 w ah ch hb ho c.hosts) :
    Calls Try.prog 21 #[.agg (c.c (.slice an c.nodes.length cn) (.slice ah c.hosts.length ch))] w (RetBelow (.string (Cm.put c)) w) := by
  obtain ⟨hf, hn12, hh24⟩ := Cm.check_zero hc
  have hkind := Cm.fine_kind hf
  obtain ⟨ok1, ok2, ok3⟩ := check_all hc
  have hNi := hN.idx
  have hHi := hH.idx
  have hpC : c.kind = 1 → (Cm.pC c).size ≤ 2600 := fun k => Cm.pC_size (ok1 k) hn12 hh24
  have hput : Cm.put c = Cm.pn c.kind ++ (if c.kind = 1 then Cm.pC c else if c.kind = 2 then Cm.pG c.gang else if c.kind = 6 then ⟨#[]⟩ else Cm.pn c.n) := rfl
  have hCC : Cm.pC c = Cm.pn c.nodes.length ++ Cm.cat Cm.pN c.nodes (Cm.pn c.hosts.length ++ Cm.cat Cm.pH c.hosts (Cm.pn c.half ++ Cm.pn c.age)) := rfl
  have c0 := fun w => rPn_any c.kind (by omega) w
  have z0 := Cm.pn_size c.kind (by omega)
  rw [hput]
  have ok1' : c.kind = 1 → c.nodes.all Cm.okN = true ∧ c.hosts.all Cm.okH = true ∧ Cm.ok c.half = true ∧ Cm.ok c.age = true := fun k => by
    have h := ok1 k
    simp only [Cm.okC, Bool.and_eq_true] at h
    exact ⟨h.1.1.1, h.1.1.2, h.1.2, h.2⟩
  clear hf hc hput ok1
  obtain ⟨kind, nodes, hosts, half, age, ⟨id, ten, pods, ⟨x, y, z⟩, run, lev, pre⟩, n⟩ := c
  simp only [Cmd.c] at *
  obtain ⟨PC, hPC⟩ : ∃ p, Cm.pC ⟨kind, nodes, hosts, half, age, ⟨id, ten, pods, ⟨x, y, z⟩, run, lev, pre⟩, n⟩ = p := ⟨_, rfl⟩
  rw [hPC] at hpC hCC ⊢
  clear hPC
  obtain ⟨nl, hnl⟩ : ∃ n, nodes.length = n := ⟨_, rfl⟩
  obtain ⟨hl, hhl⟩ : ∃ n, hosts.length = n := ⟨_, rfl⟩
  rw [hnl] at hNi hn12 hCC ⊢
  rw [hhl] at hHi hh24 hCC ⊢
  obtain ⟨zn, hzn⟩ : ∃ z : Int, (nl : Int) = z := ⟨_, rfl⟩
  obtain ⟨zh, hzh⟩ : ∃ z : Int, (hl : Int) = z := ⟨_, rfl⟩
  rw [hzn, hzh] at hCC
  have hz12 : zn ≤ 12 := by omega
  have hz24 : zh ≤ 24 := by omega
  obtain ⟨p0, e0⟩ : ∃ p, Cm.pn kind = p := ⟨_, rfl⟩
  rw [e0] at c0 z0 ⊢
  clear e0
  have C0 := Lib.hid c0
  have HNI := Lib.hid hNi; have HHI := Lib.hid hHi; have HN := Lib.hid hN; have HH := Lib.hid hH
  have HL := Lib.hid (And.intro hnl hhl)
  have HC := Lib.hid hCC; have HP := Lib.hid hpC; have HO1 := Lib.hid ok1'; have HO2 := Lib.hid ok2; have HO3 := Lib.hid ok3
  clear c0 hNi hHi hN hH hnl hhl hCC hpC ok1' ok2 ok3 hn12 hh24
  by_cases k1 : kind = 1
  · subst k1
    obtain ⟨oN, oH, o3, o4⟩ := HO1.out rfl
    have hp := HP.out rfl
    rw [if_pos rfl]
    have HP1 : Hid ((p0 ++ Cm.pn zn) ++ Cm.cat Cm.pN nodes (Cm.pn zh ++ Cm.cat Cm.pH hosts (Cm.pn half ++ Cm.pn age)) = p0 ++ PC) := Lib.hid (by rw [HC.out]; simp only [ba_cat])
    have hps : (p0 ++ PC).size ≤ 2700 := by rw [ByteArray.size_append]; omega
    obtain ⟨P, hP⟩ : ∃ P, p0 ++ PC = P := ⟨_, rfl⟩
    rw [hP] at HP1 hps ⊢
    have ON := Lib.hid oN; have OH := Lib.hid oH; have O3 := Lib.hid o3; have O4 := Lib.hid o4
    have HPS := Lib.hid hps
    clear oN oH o3 o4 hp hP hps
    have cz := fun w => rPn_any zn (by omega) w
    have zz := Cm.pn_size zn (by omega)
    have ch' := fun w => rPn_any zh (by omega) w
    have zzh := Cm.pn_size zh (by omega)
    obtain ⟨pz, epz⟩ : ∃ p, Cm.pn zn = p := ⟨_, rfl⟩
    obtain ⟨ph, eph⟩ : ∃ p, Cm.pn zh = p := ⟨_, rfl⟩
    rw [epz] at cz zz HP1
    rw [eph] at ch' zzh HP1
    have CZ := Lib.hid cz; have CH := Lib.hid ch'
    clear cz ch' epz eph
    have gW : Below w.heap.size w (w.alloc (.cells #[.int .i64 1, .slice an nl cn, .slice ah hl ch, .int .i64 half, .int .i64 age, .int .i64 id, .int .i64 ten, .int .i64 pods, .int .i64 x, .int .i64 y, .int .i64 z, .int .i64 run, .int .i64 lev, .int .i64 pre, .int .i64 n] 31)) := (Below.refl _ _).alloc (Nat.le_refl _) _
    have hh := Holds.new w #[.int .i64 1, .slice an nl cn, .slice ah hl ch, .int .i64 half, .int .i64 age, .int .i64 id, .int .i64 ten, .int .i64 pods, .int .i64 x, .int .i64 y, .int .i64 z, .int .i64 run, .int .i64 lev, .int .i64 pre, .int .i64 n] 31
    have hlt : w.heap.size < (w.alloc (.cells #[.int .i64 1, .slice an nl cn, .slice ah hl ch, .int .i64 half, .int .i64 age, .int .i64 id, .int .i64 ten, .int .i64 pods, .int .i64 x, .int .i64 y, .int .i64 z, .int .i64 run, .int .i64 lev, .int .i64 pre, .int .i64 n] 31)).heap.size := by simp
    go_enter Try.func21, Try.ntmps21
    go_wp2_with fail
    obtain ⟨W, hW⟩ : ∃ W, w.alloc (.cells #[.int .i64 1, .slice an nl cn, .slice ah hl ch, .int .i64 half, .int .i64 age, .int .i64 id, .int .i64 ten, .int .i64 pods, .int .i64 x, .int .i64 y, .int .i64 z, .int .i64 run, .int .i64 lev, .int .i64 pre, .int .i64 n] 31) = W := ⟨_, rfl⟩
    rw [hW] at gW hh hlt ⊢
    clear hW
    have GW := Lib.hid gW
    have HQ := Lib.hid (fun w2 (g : Below W.heap.size W w2) => hh.kept hlt g); clear hh hlt gW
    refine (C0.out _).mono ?_
    rintro er w1 ⟨rfl, b1⟩
    have B1 := Lib.hid b1; clear b1
    have c0 : w1.cell? ⟨w.heap.size, 0, none⟩ = some (.int .i64 1) := HQ.out w1 B1.out 0 _ rfl
    have c1 : w1.cell? ⟨w.heap.size, 1, none⟩ = some (.slice an nl cn) := HQ.out w1 B1.out 1 _ rfl
    have c2 : w1.cell? ⟨w.heap.size, 2, none⟩ = some (.slice ah hl ch) := HQ.out w1 B1.out 2 _ rfl
    have c3 : w1.cell? ⟨w.heap.size, 3, none⟩ = some (.int .i64 half) := HQ.out w1 B1.out 3 _ rfl
    have c4 : w1.cell? ⟨w.heap.size, 4, none⟩ = some (.int .i64 age) := HQ.out w1 B1.out 4 _ rfl
    have c5 : w1.cell? ⟨w.heap.size, 5, none⟩ = some (.int .i64 id) := HQ.out w1 B1.out 5 _ rfl
    have c6 : w1.cell? ⟨w.heap.size, 6, none⟩ = some (.int .i64 ten) := HQ.out w1 B1.out 6 _ rfl
    have c7 : w1.cell? ⟨w.heap.size, 7, none⟩ = some (.int .i64 pods) := HQ.out w1 B1.out 7 _ rfl
    have c8 : w1.cell? ⟨w.heap.size, 8, none⟩ = some (.int .i64 x) := HQ.out w1 B1.out 8 _ rfl
    have c9 : w1.cell? ⟨w.heap.size, 9, none⟩ = some (.int .i64 y) := HQ.out w1 B1.out 9 _ rfl
    have c10 : w1.cell? ⟨w.heap.size, 10, none⟩ = some (.int .i64 z) := HQ.out w1 B1.out 10 _ rfl
    have c11 : w1.cell? ⟨w.heap.size, 11, none⟩ = some (.int .i64 run) := HQ.out w1 B1.out 11 _ rfl
    have c12 : w1.cell? ⟨w.heap.size, 12, none⟩ = some (.int .i64 lev) := HQ.out w1 B1.out 12 _ rfl
    have c13 : w1.cell? ⟨w.heap.size, 13, none⟩ = some (.int .i64 pre) := HQ.out w1 B1.out 13 _ rfl
    have c14 : w1.cell? ⟨w.heap.size, 14, none⟩ = some (.int .i64 n) := HQ.out w1 B1.out 14 _ rfl
    clear c2 c3 c4 c5 c6 c7 c8 c9 c10 c11 c12 c13 c14
    go_wp2_with fail
    refine (CZ.out _).mono ?_
    rintro er w2 ⟨rfl, b2⟩
    have B2 := Lib.hid (below_trans B1.out b2); clear b2 c0 c1
    go_wp2_with fail
    go_loopw [3, 4] (fun s i wr => ∃ (j : Int) (t : ByteArray), s = .string t ∧ i = .int .i64 j ∧ 0 ≤ j ∧ j ≤ zn ∧ Hid (t ++ Cm.cat Cm.pN (nodes.drop j.toNat) (ph ++ Cm.cat Cm.pH hosts (Cm.pn half ++ Cm.pn age)) = P ∧ Below W.heap.size W wr)) (fun _ i _ => (zn - intOf i).toNat)
    case atStart => exact ⟨0, _, rfl, rfl, by omega, by omega, HP1.out, B2.out⟩
    case round =>
      obtain ⟨j, t, rfl, rfl, hj0, hjz, hd⟩ := hrel
      have k0 : wr.cell? ⟨w.heap.size, 1, none⟩ = some (.slice an nl cn) := HQ.out wr hd.out.2 1 _ rfl
      have hts : t.size ≤ 2700 := by have h := congrArg ByteArray.size hd.out.1; have h' := HPS.out; rw [ByteArray.size_append] at h; omega
      by_cases hlt : j < zn
      · obtain ⟨nd, hx⟩ : ∃ x, nodes[j.toNat]? = some x := ⟨_, List.getElem?_eq_getElem (by have := HL.out.1; omega)⟩
        have hi := HNI.out j.toNat (by omega)
        rw [show ((j.toNat : Nat) : Int) = j by omega] at hi
        have hr := ((HN.out.kept GW.out).kept hd.out.2).at_ j.toNat nd hx
        have hok := all_at ON.out hx
        have hstep : t ++ Cm.cat Cm.pN (nodes.drop j.toNat) (ph ++ Cm.cat Cm.pH hosts (Cm.pn half ++ Cm.pn age)) = (t ++ (Cm.pn (nd.par + 1) ++ Cm.pn nd.wt ++ Cm.pv nd.nom ++ Cm.pv nd.bor ++ Cm.pv nd.lend)) ++ Cm.cat Cm.pN (nodes.drop (j.toNat + 1)) (ph ++ Cm.cat Cm.pH hosts (Cm.pn half ++ Cm.pn age)) := by
          rw [drop_more hx, Cm.cat, Cm.pN]; simp only [ba_cat]
        have hok' := hok
        simp only [Cm.okN, Bool.and_eq_true, Cm.okP_iff] at hok'
        have hpar := hok'.1.1.1.1
        have a0 := fun w => rPn_any (nd.par + 1) (by omega) w
        have a1 := fun w => rPn_any nd.wt (Cm.ok_lt hok'.1.1.1.2) w
        have a2 := fun w => rPv_any nd.nom hok'.1.1.2 w
        have a3 := fun w => rPv_any nd.bor hok'.1.2 w
        have a4 := fun w => rPv_any nd.lend hok'.2 w
        have s0 := Cm.pn_size (nd.par + 1) (by omega)
        have s1 := Cm.pn_size nd.wt (Cm.ok_lt hok'.1.1.1.2)
        have s2 := Cm.pv_size hok'.1.1.2
        have s3 := Cm.pv_size hok'.1.2
        have s4 := Cm.pv_size hok'.2
        obtain ⟨q0, e0⟩ : ∃ p, Cm.pn (nd.par + 1) = p := ⟨_, rfl⟩
        obtain ⟨q1, e1⟩ : ∃ p, Cm.pn nd.wt = p := ⟨_, rfl⟩
        obtain ⟨q2, e2⟩ : ∃ p, Cm.pv nd.nom = p := ⟨_, rfl⟩
        obtain ⟨q3, e3⟩ : ∃ p, Cm.pv nd.bor = p := ⟨_, rfl⟩
        obtain ⟨q4, e4⟩ : ∃ p, Cm.pv nd.lend = p := ⟨_, rfl⟩
        rw [e0] at a0 s0 hstep
        rw [e1] at a1 s1 hstep
        rw [e2] at a2 s2 hstep
        rw [e3] at a3 s3 hstep
        rw [e4] at a4 s4 hstep
        clear e0 e1 e2 e3 e4 hok hok' hx
        obtain ⟨np, nw, ⟨n0, n1, n2⟩, ⟨m0, m1, m2⟩, ⟨l0, l1, l2⟩⟩ := nd
        simp only at a0 a1 a2 a3 a4 hpar
        simp only [Nd.c] at hr
        have HR := Lib.hid hr; have HS := Lib.hid hstep
        have A0 := Lib.hid a0; have A1 := Lib.hid a1; have A2 := Lib.hid a2; have A3 := Lib.hid a3; have A4 := Lib.hid a4
        clear hr hstep a0 a1 a2 a3 a4
        obtain ⟨oi, hoi⟩ : ∃ n, no + j.toNat * 11 = n := ⟨_, rfl⟩
        rw [hoi] at hi HR
        clear hoi
        go_wp2_with (refine wpList_load_mid rfl 78 _ rfl nb oi rfl _ _ HR.out Try.underlying78 rfl node_len ?_)
        have g3 : Below W.heap.size W (wr.alloc (.cells #[.int .i64 np, .int .i64 nw, .int .i64 n0, .int .i64 n1, .int .i64 n2, .int .i64 m0, .int .i64 m1, .int .i64 m2, .int .i64 l0, .int .i64 l1, .int .i64 l2] 78)) := hd.out.2.alloc hd.out.2.size _
        have h3 := Holds.new wr #[.int .i64 np, .int .i64 nw, .int .i64 n0, .int .i64 n1, .int .i64 n2, .int .i64 m0, .int .i64 m1, .int .i64 m2, .int .i64 l0, .int .i64 l1, .int .i64 l2] 78
        have l3 : wr.heap.size < (wr.alloc (.cells #[.int .i64 np, .int .i64 nw, .int .i64 n0, .int .i64 n1, .int .i64 n2, .int .i64 m0, .int .i64 m1, .int .i64 m2, .int .i64 l0, .int .i64 l1, .int .i64 l2] 78)).heap.size := by simp
        obtain ⟨W3, hW3⟩ : ∃ V, wr.alloc (.cells #[.int .i64 np, .int .i64 nw, .int .i64 n0, .int .i64 n1, .int .i64 n2, .int .i64 m0, .int .i64 m1, .int .i64 m2, .int .i64 l0, .int .i64 l1, .int .i64 l2] 78) = V := ⟨_, rfl⟩
        rw [hW3] at g3 h3 l3 ⊢
        have G3 := Lib.hid g3
        have HQ3 := Lib.hid (fun w2 (g : Below W3.heap.size W3 w2) => h3.kept l3 g)
        clear hW3 g3 h3 l3 k0 hi
        refine region_quiet (fun w2 => Below W3.heap.size W3 w2) (by kernel_rfl) (by kernel_rfl) (below_drewN (Below.refl _ _) 1) ?_
        repeat (first
          | (go_big_quiet_skip)
          | (with_reducible refine quiet_hold HQ3.out 3 _ Try.underlying3 rfl _ _ _ rfl rfl rfl ?_ ?_; (focus kernel_rfl); simp only [Act.put, List.setIfInBounds_toArray, List.set_cons_zero, List.set_cons_succ])
          | (with_reducible refine quiet_hold3 HQ3.out 27 _ Try.underlying27 rfl vec_len _ _ _ _ _ rfl rfl rfl rfl rfl ?_ ?_; (focus kernel_rfl); simp only [Act.put, List.setIfInBounds_toArray, List.set_cons_zero, List.set_cons_succ])
          | (go_big_quiet_step ((intro g2; first
            | (with_reducible rfl)
            | (with_reducible exact quiet_below g2 (A0.out _))
            | (with_reducible exact quiet_below g2 (A1.out _))
            | (with_reducible exact quiet_below g2 (A2.out _))
            | (with_reducible exact quiet_below g2 (A3.out _))
            | (with_reducible exact quiet_below g2 (A4.out _))))))
        refine wpQuiet_nil ?_
        intro w4 g4
        have G4 := Lib.hid (below_trans G3.out g4); clear g4
        go_wp2_with fail
        go_roundw
        case rel => exact ⟨j + 1, _, rfl, rfl, by omega, by omega, by rw [show (j + 1).toNat = j.toNat + 1 by omega]; exact HS.out.symm.trans hd.out.1, G4.out⟩
        case measure => simp [intOf]; omega
      · have hP2 : Hid (t ++ (ph ++ Cm.cat Cm.pH hosts (Cm.pn half ++ Cm.pn age)) = P) := Lib.hid (by
          have h := hd.out.1
          rw [List.drop_of_length_le (by have := HL.out.1; omega)] at h
          exact h)
        have k2 : wr.cell? ⟨w.heap.size, 2, none⟩ = some (.slice ah hl ch) := HQ.out wr hd.out.2 2 _ rfl
        have D2 := Lib.hid hd.out.2
        clear hd
        go_wp2_with fail
        refine (CH.out _).mono ?_
        rintro er w3 ⟨rfl, b3⟩
        have B3 := Lib.hid (below_trans D2.out b3); clear b3 k0 k2
        go_wp2_with fail
        go_loopw [3, 6] (fun s i wr => ∃ (j : Int) (t : ByteArray), s = .string t ∧ i = .int .i64 j ∧ 0 ≤ j ∧ j ≤ zh ∧ Hid (t ++ Cm.cat Cm.pH (hosts.drop j.toNat) (Cm.pn half ++ Cm.pn age) = P ∧ Below W.heap.size W wr)) (fun _ i _ => (zh - intOf i).toNat)
        case atStart => exact ⟨0, _, rfl, rfl, by omega, by omega, by rw [ba_cat]; exact hP2.out, B3.out⟩
        case round =>
          obtain ⟨j, t, rfl, rfl, hj0, hjz, hd⟩ := hrel
          have k0 : wr.cell? ⟨w.heap.size, 2, none⟩ = some (.slice ah hl ch) := HQ.out wr hd.out.2 2 _ rfl
          have hts : t.size ≤ 2700 := by have h := congrArg ByteArray.size hd.out.1; have h' := HPS.out; rw [ByteArray.size_append] at h; omega
          by_cases hlt : j < zh
          · obtain ⟨nd, hx⟩ : ∃ x, hosts[j.toNat]? = some x := ⟨_, List.getElem?_eq_getElem (by have := HL.out.2; omega)⟩
            have hi := HHI.out j.toNat (by omega)
            rw [show ((j.toNat : Nat) : Int) = j by omega] at hi
            have hr := ((HH.out.kept GW.out).kept hd.out.2).at_ j.toNat nd hx
            have hok := all_at OH.out hx
            have hstep : t ++ Cm.cat Cm.pH (hosts.drop j.toNat) (Cm.pn half ++ Cm.pn age) = (t ++ (Cm.pn nd.fl ++ Cm.pn nd.bl ++ Cm.pn nd.ra ++ Cm.pv nd.cap)) ++ Cm.cat Cm.pH (hosts.drop (j.toNat + 1)) (Cm.pn half ++ Cm.pn age) := by
              rw [drop_more hx, Cm.cat, Cm.pH]; simp only [ba_cat]
            simp only [Cm.okH, Bool.and_eq_true] at hok
            have a0 := fun w => rPn_any nd.fl (Cm.ok_lt hok.1.1.1) w
            have a1 := fun w => rPn_any nd.bl (Cm.ok_lt hok.1.1.2) w
            have a2 := fun w => rPn_any nd.ra (Cm.ok_lt hok.1.2) w
            have a3 := fun w => rPv_any nd.cap hok.2 w
            have s0 := Cm.pn_size nd.fl (Cm.ok_lt hok.1.1.1)
            have s1 := Cm.pn_size nd.bl (Cm.ok_lt hok.1.1.2)
            have s2 := Cm.pn_size nd.ra (Cm.ok_lt hok.1.2)
            have s3 := Cm.pv_size hok.2
            obtain ⟨q0, e0⟩ : ∃ p, Cm.pn nd.fl = p := ⟨_, rfl⟩
            obtain ⟨q1, e1⟩ : ∃ p, Cm.pn nd.bl = p := ⟨_, rfl⟩
            obtain ⟨q2, e2⟩ : ∃ p, Cm.pn nd.ra = p := ⟨_, rfl⟩
            obtain ⟨q3, e3⟩ : ∃ p, Cm.pv nd.cap = p := ⟨_, rfl⟩
            rw [e0] at a0 s0 hstep
            rw [e1] at a1 s1 hstep
            rw [e2] at a2 s2 hstep
            rw [e3] at a3 s3 hstep
            clear e0 e1 e2 e3 hok hx
            obtain ⟨np, nw, nr, ⟨n0, n1, n2⟩⟩ := nd
            simp only at a0 a1 a2 a3
            simp only [Hs.c] at hr
            have HR := Lib.hid hr; have HS := Lib.hid hstep
            have A0 := Lib.hid a0; have A1 := Lib.hid a1; have A2 := Lib.hid a2; have A3 := Lib.hid a3
            clear hr hstep a0 a1 a2 a3
            obtain ⟨oi, hoi⟩ : ∃ n, ho + j.toNat * 6 = n := ⟨_, rfl⟩
            rw [hoi] at hi HR
            clear hoi
            go_wp2_with (refine wpList_load_mid rfl 81 _ rfl hb oi rfl _ _ HR.out Try.underlying81 rfl host_len ?_)
            have g3 : Below W.heap.size W (wr.alloc (.cells #[.int .i64 np, .int .i64 nw, .int .i64 nr, .int .i64 n0, .int .i64 n1, .int .i64 n2] 81)) := hd.out.2.alloc hd.out.2.size _
            have h3 := Holds.new wr #[.int .i64 np, .int .i64 nw, .int .i64 nr, .int .i64 n0, .int .i64 n1, .int .i64 n2] 81
            have l3 : wr.heap.size < (wr.alloc (.cells #[.int .i64 np, .int .i64 nw, .int .i64 nr, .int .i64 n0, .int .i64 n1, .int .i64 n2] 81)).heap.size := by simp
            obtain ⟨W3, hW3⟩ : ∃ V, wr.alloc (.cells #[.int .i64 np, .int .i64 nw, .int .i64 nr, .int .i64 n0, .int .i64 n1, .int .i64 n2] 81) = V := ⟨_, rfl⟩
            rw [hW3] at g3 h3 l3 ⊢
            have G3 := Lib.hid g3
            have HQ3 := Lib.hid (fun w2 (g : Below W3.heap.size W3 w2) => h3.kept l3 g)
            clear hW3 g3 h3 l3 k0 hi
            refine region_quiet (fun w2 => Below W3.heap.size W3 w2) (by kernel_rfl) (by kernel_rfl) (below_drewN (Below.refl _ _) 1) ?_
            repeat (first
              | (go_big_quiet_skip)
              | (with_reducible refine quiet_hold HQ3.out 3 _ Try.underlying3 rfl _ _ _ rfl rfl rfl ?_ ?_; (focus kernel_rfl); simp only [Act.put, List.setIfInBounds_toArray, List.set_cons_zero, List.set_cons_succ])
              | (with_reducible refine quiet_hold3 HQ3.out 27 _ Try.underlying27 rfl vec_len _ _ _ _ _ rfl rfl rfl rfl rfl ?_ ?_; (focus kernel_rfl); simp only [Act.put, List.setIfInBounds_toArray, List.set_cons_zero, List.set_cons_succ])
              | (go_big_quiet_step ((intro g2; first
                | (with_reducible rfl)
                | (with_reducible exact quiet_below g2 (A0.out _))
                | (with_reducible exact quiet_below g2 (A1.out _))
                | (with_reducible exact quiet_below g2 (A2.out _))
                | (with_reducible exact quiet_below g2 (A3.out _))))))
            refine wpQuiet_nil ?_
            intro w4 g4
            have G4 := Lib.hid (below_trans G3.out g4); clear g4
            go_wp2_with fail
            go_roundw
            case rel => exact ⟨j + 1, _, rfl, rfl, by omega, by omega, by rw [show (j + 1).toNat = j.toNat + 1 by omega]; exact HS.out.symm.trans hd.out.1, G4.out⟩
            case measure => simp [intOf]; omega
          · have hP3 : t ++ (Cm.pn half ++ Cm.pn age) = P := by
              have h := hd.out.1
              rw [List.drop_of_length_le (by have := HL.out.2; omega)] at h
              exact h
            have a0 := fun w => rPn_any half (Cm.ok_lt O3.out) w
            have a1 := fun w => rPn_any age (Cm.ok_lt O4.out) w
            have s0 := Cm.pn_size half (Cm.ok_lt O3.out)
            have s1 := Cm.pn_size age (Cm.ok_lt O4.out)
            obtain ⟨q0, e0⟩ : ∃ p, Cm.pn half = p := ⟨_, rfl⟩
            obtain ⟨q1, e1⟩ : ∃ p, Cm.pn age = p := ⟨_, rfl⟩
            rw [e0] at a0 s0 hP3
            rw [e1] at a1 s1 hP3
            have A0 := Lib.hid a0; have A1 := Lib.hid a1
            rw [← ba_cat] at hP3
            have HP3 := Lib.hid hP3
            have D3 := Lib.hid hd.out.2
            clear e0 e1 a0 a1 hP3 hd
            go_wp2_with fail
            have g5 : ∀ w2, Below wr.heap.size wr w2 → Holds w2 w.heap.size #[.int .i64 1, .slice an nl cn, .slice ah hl ch, .int .i64 half, .int .i64 age, .int .i64 id, .int .i64 ten, .int .i64 pods, .int .i64 x, .int .i64 y, .int .i64 z, .int .i64 run, .int .i64 lev, .int .i64 pre, .int .i64 n] := fun w2 g => HQ.out w2 (below_trans D3.out g)
            have HQ5 := Lib.hid g5
            clear g5 k0
            refine region_quiet (fun w2 => Below wr.heap.size wr w2) (by kernel_rfl) (by kernel_rfl) (below_drewN (Below.refl _ _) 1) ?_
            repeat (first
              | (go_big_quiet_skip)
              | (with_reducible refine quiet_hold HQ5.out 3 _ Try.underlying3 rfl _ _ _ rfl rfl rfl ?_ ?_; (focus kernel_rfl); simp only [Act.put, List.setIfInBounds_toArray, List.set_cons_zero, List.set_cons_succ])
              | (go_big_quiet_step ((intro g2; first
                | (with_reducible rfl)
                | (with_reducible exact quiet_below g2 (A0.out _))
                | (with_reducible exact quiet_below g2 (A1.out _))))))
            refine wpQuiet_nil ?_
            intro w4 g4
            have G4 := Lib.hid (below_trans D3.out g4); clear g4
            go_wp2_with fail
            go_ret
            exact ⟨congrArg (fun p => Ending.returned (.string p)) HP3.out, below_trans GW.out G4.out⟩
  rw [if_neg k1]
  by_cases k2 : kind = 2
  · subst k2
    have hg := HO2.out rfl
    rw [if_pos rfl]
    have a0 := fun w => rPutGang_any ⟨id, ten, pods, ⟨x, y, z⟩, run, lev, pre⟩ hg w
    have s0 := Cm.pG_size hg
    obtain ⟨q0, e0⟩ : ∃ p, Cm.pG ⟨id, ten, pods, ⟨x, y, z⟩, run, lev, pre⟩ = p := ⟨_, rfl⟩
    rw [e0] at a0 s0 ⊢
    simp only [Gg.c] at a0
    have A0 := Lib.hid a0
    clear a0 e0 hg k1
    have gW : Below w.heap.size w (w.alloc (.cells #[.int .i64 2, .slice an nl cn, .slice ah hl ch, .int .i64 half, .int .i64 age, .int .i64 id, .int .i64 ten, .int .i64 pods, .int .i64 x, .int .i64 y, .int .i64 z, .int .i64 run, .int .i64 lev, .int .i64 pre, .int .i64 n] 31)) := (Below.refl _ _).alloc (Nat.le_refl _) _
    have hh := Holds.new w #[.int .i64 2, .slice an nl cn, .slice ah hl ch, .int .i64 half, .int .i64 age, .int .i64 id, .int .i64 ten, .int .i64 pods, .int .i64 x, .int .i64 y, .int .i64 z, .int .i64 run, .int .i64 lev, .int .i64 pre, .int .i64 n] 31
    have hlt : w.heap.size < (w.alloc (.cells #[.int .i64 2, .slice an nl cn, .slice ah hl ch, .int .i64 half, .int .i64 age, .int .i64 id, .int .i64 ten, .int .i64 pods, .int .i64 x, .int .i64 y, .int .i64 z, .int .i64 run, .int .i64 lev, .int .i64 pre, .int .i64 n] 31)).heap.size := by simp
    go_enter Try.func21, Try.ntmps21
    go_wp2_with fail
    obtain ⟨W, hW⟩ : ∃ W, w.alloc (.cells #[.int .i64 2, .slice an nl cn, .slice ah hl ch, .int .i64 half, .int .i64 age, .int .i64 id, .int .i64 ten, .int .i64 pods, .int .i64 x, .int .i64 y, .int .i64 z, .int .i64 run, .int .i64 lev, .int .i64 pre, .int .i64 n] 31) = W := ⟨_, rfl⟩
    rw [hW] at gW hh hlt ⊢
    clear hW
    have GW := Lib.hid gW
    have HQ := Lib.hid (fun w2 (g : Below W.heap.size W w2) => hh.kept hlt g); clear hh hlt gW
    refine (C0.out _).mono ?_
    rintro er w1 ⟨rfl, b1⟩
    have B1 := Lib.hid b1; clear b1
    have c0 : w1.cell? ⟨w.heap.size, 0, none⟩ = some (.int .i64 2) := HQ.out w1 B1.out 0 _ rfl
    have c1 : w1.cell? ⟨w.heap.size, 1, none⟩ = some (.slice an nl cn) := HQ.out w1 B1.out 1 _ rfl
    have c2 : w1.cell? ⟨w.heap.size, 2, none⟩ = some (.slice ah hl ch) := HQ.out w1 B1.out 2 _ rfl
    have c3 : w1.cell? ⟨w.heap.size, 3, none⟩ = some (.int .i64 half) := HQ.out w1 B1.out 3 _ rfl
    have c4 : w1.cell? ⟨w.heap.size, 4, none⟩ = some (.int .i64 age) := HQ.out w1 B1.out 4 _ rfl
    have c5 : w1.cell? ⟨w.heap.size, 5, none⟩ = some (.int .i64 id) := HQ.out w1 B1.out 5 _ rfl
    have c6 : w1.cell? ⟨w.heap.size, 6, none⟩ = some (.int .i64 ten) := HQ.out w1 B1.out 6 _ rfl
    have c7 : w1.cell? ⟨w.heap.size, 7, none⟩ = some (.int .i64 pods) := HQ.out w1 B1.out 7 _ rfl
    have c8 : w1.cell? ⟨w.heap.size, 8, none⟩ = some (.int .i64 x) := HQ.out w1 B1.out 8 _ rfl
    have c9 : w1.cell? ⟨w.heap.size, 9, none⟩ = some (.int .i64 y) := HQ.out w1 B1.out 9 _ rfl
    have c10 : w1.cell? ⟨w.heap.size, 10, none⟩ = some (.int .i64 z) := HQ.out w1 B1.out 10 _ rfl
    have c11 : w1.cell? ⟨w.heap.size, 11, none⟩ = some (.int .i64 run) := HQ.out w1 B1.out 11 _ rfl
    have c12 : w1.cell? ⟨w.heap.size, 12, none⟩ = some (.int .i64 lev) := HQ.out w1 B1.out 12 _ rfl
    have c13 : w1.cell? ⟨w.heap.size, 13, none⟩ = some (.int .i64 pre) := HQ.out w1 B1.out 13 _ rfl
    have c14 : w1.cell? ⟨w.heap.size, 14, none⟩ = some (.int .i64 n) := HQ.out w1 B1.out 14 _ rfl
    go_wp2_with fail
    refine (A0.out _).mono ?_
    rintro er w2 ⟨rfl, b2⟩
    have B2 := Lib.hid (below_trans B1.out b2); clear b2 c0 c1 c2 c3 c4 c5 c6 c7 c8 c9 c10 c11 c12 c13 c14
    go_wp2_with fail
    go_ret
    exact ⟨rfl, below_trans GW.out B2.out⟩
  rw [if_neg k2]
  by_cases k6 : kind = 6
  · subst k6
    rw [if_pos rfl, Cm.ba_right]
    clear k1 k2
    have gW : Below w.heap.size w (w.alloc (.cells #[.int .i64 6, .slice an nl cn, .slice ah hl ch, .int .i64 half, .int .i64 age, .int .i64 id, .int .i64 ten, .int .i64 pods, .int .i64 x, .int .i64 y, .int .i64 z, .int .i64 run, .int .i64 lev, .int .i64 pre, .int .i64 n] 31)) := (Below.refl _ _).alloc (Nat.le_refl _) _
    have hh := Holds.new w #[.int .i64 6, .slice an nl cn, .slice ah hl ch, .int .i64 half, .int .i64 age, .int .i64 id, .int .i64 ten, .int .i64 pods, .int .i64 x, .int .i64 y, .int .i64 z, .int .i64 run, .int .i64 lev, .int .i64 pre, .int .i64 n] 31
    have hlt : w.heap.size < (w.alloc (.cells #[.int .i64 6, .slice an nl cn, .slice ah hl ch, .int .i64 half, .int .i64 age, .int .i64 id, .int .i64 ten, .int .i64 pods, .int .i64 x, .int .i64 y, .int .i64 z, .int .i64 run, .int .i64 lev, .int .i64 pre, .int .i64 n] 31)).heap.size := by simp
    go_enter Try.func21, Try.ntmps21
    go_wp2_with fail
    obtain ⟨W, hW⟩ : ∃ W, w.alloc (.cells #[.int .i64 6, .slice an nl cn, .slice ah hl ch, .int .i64 half, .int .i64 age, .int .i64 id, .int .i64 ten, .int .i64 pods, .int .i64 x, .int .i64 y, .int .i64 z, .int .i64 run, .int .i64 lev, .int .i64 pre, .int .i64 n] 31) = W := ⟨_, rfl⟩
    rw [hW] at gW hh hlt ⊢
    clear hW
    have GW := Lib.hid gW
    have HQ := Lib.hid (fun w2 (g : Below W.heap.size W w2) => hh.kept hlt g); clear hh hlt gW
    refine (C0.out _).mono ?_
    rintro er w1 ⟨rfl, b1⟩
    have B1 := Lib.hid b1; clear b1
    have c0 : w1.cell? ⟨w.heap.size, 0, none⟩ = some (.int .i64 6) := HQ.out w1 B1.out 0 _ rfl
    have c1 : w1.cell? ⟨w.heap.size, 1, none⟩ = some (.slice an nl cn) := HQ.out w1 B1.out 1 _ rfl
    have c2 : w1.cell? ⟨w.heap.size, 2, none⟩ = some (.slice ah hl ch) := HQ.out w1 B1.out 2 _ rfl
    have c3 : w1.cell? ⟨w.heap.size, 3, none⟩ = some (.int .i64 half) := HQ.out w1 B1.out 3 _ rfl
    have c4 : w1.cell? ⟨w.heap.size, 4, none⟩ = some (.int .i64 age) := HQ.out w1 B1.out 4 _ rfl
    have c5 : w1.cell? ⟨w.heap.size, 5, none⟩ = some (.int .i64 id) := HQ.out w1 B1.out 5 _ rfl
    have c6 : w1.cell? ⟨w.heap.size, 6, none⟩ = some (.int .i64 ten) := HQ.out w1 B1.out 6 _ rfl
    have c7 : w1.cell? ⟨w.heap.size, 7, none⟩ = some (.int .i64 pods) := HQ.out w1 B1.out 7 _ rfl
    have c8 : w1.cell? ⟨w.heap.size, 8, none⟩ = some (.int .i64 x) := HQ.out w1 B1.out 8 _ rfl
    have c9 : w1.cell? ⟨w.heap.size, 9, none⟩ = some (.int .i64 y) := HQ.out w1 B1.out 9 _ rfl
    have c10 : w1.cell? ⟨w.heap.size, 10, none⟩ = some (.int .i64 z) := HQ.out w1 B1.out 10 _ rfl
    have c11 : w1.cell? ⟨w.heap.size, 11, none⟩ = some (.int .i64 run) := HQ.out w1 B1.out 11 _ rfl
    have c12 : w1.cell? ⟨w.heap.size, 12, none⟩ = some (.int .i64 lev) := HQ.out w1 B1.out 12 _ rfl
    have c13 : w1.cell? ⟨w.heap.size, 13, none⟩ = some (.int .i64 pre) := HQ.out w1 B1.out 13 _ rfl
    have c14 : w1.cell? ⟨w.heap.size, 14, none⟩ = some (.int .i64 n) := HQ.out w1 B1.out 14 _ rfl
    go_wp2_with fail
    go_ret
    exact ⟨rfl, below_trans GW.out B1.out⟩
  rw [if_neg k6]
  have hk := HO3.out (by omega)
  have h345 : kind = 3 ∨ kind = 4 ∨ kind = 5 := by omega
  clear k1 k2 k6
  rcases h345 with h | h | h
  · subst h
    have a0 := fun w => rPn_any n (Cm.ok_lt hk) w
    have s0 := Cm.pn_size n (Cm.ok_lt hk)
    obtain ⟨q0, e0⟩ : ∃ p, Cm.pn n = p := ⟨_, rfl⟩
    rw [e0] at a0 s0 ⊢
    have A0 := Lib.hid a0
    clear a0 e0 hk
    have gW : Below w.heap.size w (w.alloc (.cells #[.int .i64 3, .slice an nl cn, .slice ah hl ch, .int .i64 half, .int .i64 age, .int .i64 id, .int .i64 ten, .int .i64 pods, .int .i64 x, .int .i64 y, .int .i64 z, .int .i64 run, .int .i64 lev, .int .i64 pre, .int .i64 n] 31)) := (Below.refl _ _).alloc (Nat.le_refl _) _
    have hh := Holds.new w #[.int .i64 3, .slice an nl cn, .slice ah hl ch, .int .i64 half, .int .i64 age, .int .i64 id, .int .i64 ten, .int .i64 pods, .int .i64 x, .int .i64 y, .int .i64 z, .int .i64 run, .int .i64 lev, .int .i64 pre, .int .i64 n] 31
    have hlt : w.heap.size < (w.alloc (.cells #[.int .i64 3, .slice an nl cn, .slice ah hl ch, .int .i64 half, .int .i64 age, .int .i64 id, .int .i64 ten, .int .i64 pods, .int .i64 x, .int .i64 y, .int .i64 z, .int .i64 run, .int .i64 lev, .int .i64 pre, .int .i64 n] 31)).heap.size := by simp
    go_enter Try.func21, Try.ntmps21
    go_wp2_with fail
    obtain ⟨W, hW⟩ : ∃ W, w.alloc (.cells #[.int .i64 3, .slice an nl cn, .slice ah hl ch, .int .i64 half, .int .i64 age, .int .i64 id, .int .i64 ten, .int .i64 pods, .int .i64 x, .int .i64 y, .int .i64 z, .int .i64 run, .int .i64 lev, .int .i64 pre, .int .i64 n] 31) = W := ⟨_, rfl⟩
    rw [hW] at gW hh hlt ⊢
    clear hW
    have GW := Lib.hid gW
    have HQ := Lib.hid (fun w2 (g : Below W.heap.size W w2) => hh.kept hlt g); clear hh hlt gW
    refine (C0.out _).mono ?_
    rintro er w1 ⟨rfl, b1⟩
    have B1 := Lib.hid b1; clear b1
    have c0 : w1.cell? ⟨w.heap.size, 0, none⟩ = some (.int .i64 3) := HQ.out w1 B1.out 0 _ rfl
    have c1 : w1.cell? ⟨w.heap.size, 1, none⟩ = some (.slice an nl cn) := HQ.out w1 B1.out 1 _ rfl
    have c2 : w1.cell? ⟨w.heap.size, 2, none⟩ = some (.slice ah hl ch) := HQ.out w1 B1.out 2 _ rfl
    have c3 : w1.cell? ⟨w.heap.size, 3, none⟩ = some (.int .i64 half) := HQ.out w1 B1.out 3 _ rfl
    have c4 : w1.cell? ⟨w.heap.size, 4, none⟩ = some (.int .i64 age) := HQ.out w1 B1.out 4 _ rfl
    have c5 : w1.cell? ⟨w.heap.size, 5, none⟩ = some (.int .i64 id) := HQ.out w1 B1.out 5 _ rfl
    have c6 : w1.cell? ⟨w.heap.size, 6, none⟩ = some (.int .i64 ten) := HQ.out w1 B1.out 6 _ rfl
    have c7 : w1.cell? ⟨w.heap.size, 7, none⟩ = some (.int .i64 pods) := HQ.out w1 B1.out 7 _ rfl
    have c8 : w1.cell? ⟨w.heap.size, 8, none⟩ = some (.int .i64 x) := HQ.out w1 B1.out 8 _ rfl
    have c9 : w1.cell? ⟨w.heap.size, 9, none⟩ = some (.int .i64 y) := HQ.out w1 B1.out 9 _ rfl
    have c10 : w1.cell? ⟨w.heap.size, 10, none⟩ = some (.int .i64 z) := HQ.out w1 B1.out 10 _ rfl
    have c11 : w1.cell? ⟨w.heap.size, 11, none⟩ = some (.int .i64 run) := HQ.out w1 B1.out 11 _ rfl
    have c12 : w1.cell? ⟨w.heap.size, 12, none⟩ = some (.int .i64 lev) := HQ.out w1 B1.out 12 _ rfl
    have c13 : w1.cell? ⟨w.heap.size, 13, none⟩ = some (.int .i64 pre) := HQ.out w1 B1.out 13 _ rfl
    have c14 : w1.cell? ⟨w.heap.size, 14, none⟩ = some (.int .i64 n) := HQ.out w1 B1.out 14 _ rfl
    go_wp2_with fail
    refine (A0.out _).mono ?_
    rintro er w2 ⟨rfl, b2⟩
    have B2 := Lib.hid (below_trans B1.out b2); clear b2 c0 c1 c2 c3 c4 c5 c6 c7 c8 c9 c10 c11 c12 c13 c14
    go_wp2_with fail
    go_ret
    exact ⟨rfl, below_trans GW.out B2.out⟩
  · subst h
    have a0 := fun w => rPn_any n (Cm.ok_lt hk) w
    have s0 := Cm.pn_size n (Cm.ok_lt hk)
    obtain ⟨q0, e0⟩ : ∃ p, Cm.pn n = p := ⟨_, rfl⟩
    rw [e0] at a0 s0 ⊢
    have A0 := Lib.hid a0
    clear a0 e0 hk
    have gW : Below w.heap.size w (w.alloc (.cells #[.int .i64 4, .slice an nl cn, .slice ah hl ch, .int .i64 half, .int .i64 age, .int .i64 id, .int .i64 ten, .int .i64 pods, .int .i64 x, .int .i64 y, .int .i64 z, .int .i64 run, .int .i64 lev, .int .i64 pre, .int .i64 n] 31)) := (Below.refl _ _).alloc (Nat.le_refl _) _
    have hh := Holds.new w #[.int .i64 4, .slice an nl cn, .slice ah hl ch, .int .i64 half, .int .i64 age, .int .i64 id, .int .i64 ten, .int .i64 pods, .int .i64 x, .int .i64 y, .int .i64 z, .int .i64 run, .int .i64 lev, .int .i64 pre, .int .i64 n] 31
    have hlt : w.heap.size < (w.alloc (.cells #[.int .i64 4, .slice an nl cn, .slice ah hl ch, .int .i64 half, .int .i64 age, .int .i64 id, .int .i64 ten, .int .i64 pods, .int .i64 x, .int .i64 y, .int .i64 z, .int .i64 run, .int .i64 lev, .int .i64 pre, .int .i64 n] 31)).heap.size := by simp
    go_enter Try.func21, Try.ntmps21
    go_wp2_with fail
    obtain ⟨W, hW⟩ : ∃ W, w.alloc (.cells #[.int .i64 4, .slice an nl cn, .slice ah hl ch, .int .i64 half, .int .i64 age, .int .i64 id, .int .i64 ten, .int .i64 pods, .int .i64 x, .int .i64 y, .int .i64 z, .int .i64 run, .int .i64 lev, .int .i64 pre, .int .i64 n] 31) = W := ⟨_, rfl⟩
    rw [hW] at gW hh hlt ⊢
    clear hW
    have GW := Lib.hid gW
    have HQ := Lib.hid (fun w2 (g : Below W.heap.size W w2) => hh.kept hlt g); clear hh hlt gW
    refine (C0.out _).mono ?_
    rintro er w1 ⟨rfl, b1⟩
    have B1 := Lib.hid b1; clear b1
    have c0 : w1.cell? ⟨w.heap.size, 0, none⟩ = some (.int .i64 4) := HQ.out w1 B1.out 0 _ rfl
    have c1 : w1.cell? ⟨w.heap.size, 1, none⟩ = some (.slice an nl cn) := HQ.out w1 B1.out 1 _ rfl
    have c2 : w1.cell? ⟨w.heap.size, 2, none⟩ = some (.slice ah hl ch) := HQ.out w1 B1.out 2 _ rfl
    have c3 : w1.cell? ⟨w.heap.size, 3, none⟩ = some (.int .i64 half) := HQ.out w1 B1.out 3 _ rfl
    have c4 : w1.cell? ⟨w.heap.size, 4, none⟩ = some (.int .i64 age) := HQ.out w1 B1.out 4 _ rfl
    have c5 : w1.cell? ⟨w.heap.size, 5, none⟩ = some (.int .i64 id) := HQ.out w1 B1.out 5 _ rfl
    have c6 : w1.cell? ⟨w.heap.size, 6, none⟩ = some (.int .i64 ten) := HQ.out w1 B1.out 6 _ rfl
    have c7 : w1.cell? ⟨w.heap.size, 7, none⟩ = some (.int .i64 pods) := HQ.out w1 B1.out 7 _ rfl
    have c8 : w1.cell? ⟨w.heap.size, 8, none⟩ = some (.int .i64 x) := HQ.out w1 B1.out 8 _ rfl
    have c9 : w1.cell? ⟨w.heap.size, 9, none⟩ = some (.int .i64 y) := HQ.out w1 B1.out 9 _ rfl
    have c10 : w1.cell? ⟨w.heap.size, 10, none⟩ = some (.int .i64 z) := HQ.out w1 B1.out 10 _ rfl
    have c11 : w1.cell? ⟨w.heap.size, 11, none⟩ = some (.int .i64 run) := HQ.out w1 B1.out 11 _ rfl
    have c12 : w1.cell? ⟨w.heap.size, 12, none⟩ = some (.int .i64 lev) := HQ.out w1 B1.out 12 _ rfl
    have c13 : w1.cell? ⟨w.heap.size, 13, none⟩ = some (.int .i64 pre) := HQ.out w1 B1.out 13 _ rfl
    have c14 : w1.cell? ⟨w.heap.size, 14, none⟩ = some (.int .i64 n) := HQ.out w1 B1.out 14 _ rfl
    go_wp2_with fail
    refine (A0.out _).mono ?_
    rintro er w2 ⟨rfl, b2⟩
    have B2 := Lib.hid (below_trans B1.out b2); clear b2 c0 c1 c2 c3 c4 c5 c6 c7 c8 c9 c10 c11 c12 c13 c14
    go_wp2_with fail
    go_ret
    exact ⟨rfl, below_trans GW.out B2.out⟩
  · subst h
    have a0 := fun w => rPn_any n (Cm.ok_lt hk) w
    have s0 := Cm.pn_size n (Cm.ok_lt hk)
    obtain ⟨q0, e0⟩ : ∃ p, Cm.pn n = p := ⟨_, rfl⟩
    rw [e0] at a0 s0 ⊢
    have A0 := Lib.hid a0
    clear a0 e0 hk
    have gW : Below w.heap.size w (w.alloc (.cells #[.int .i64 5, .slice an nl cn, .slice ah hl ch, .int .i64 half, .int .i64 age, .int .i64 id, .int .i64 ten, .int .i64 pods, .int .i64 x, .int .i64 y, .int .i64 z, .int .i64 run, .int .i64 lev, .int .i64 pre, .int .i64 n] 31)) := (Below.refl _ _).alloc (Nat.le_refl _) _
    have hh := Holds.new w #[.int .i64 5, .slice an nl cn, .slice ah hl ch, .int .i64 half, .int .i64 age, .int .i64 id, .int .i64 ten, .int .i64 pods, .int .i64 x, .int .i64 y, .int .i64 z, .int .i64 run, .int .i64 lev, .int .i64 pre, .int .i64 n] 31
    have hlt : w.heap.size < (w.alloc (.cells #[.int .i64 5, .slice an nl cn, .slice ah hl ch, .int .i64 half, .int .i64 age, .int .i64 id, .int .i64 ten, .int .i64 pods, .int .i64 x, .int .i64 y, .int .i64 z, .int .i64 run, .int .i64 lev, .int .i64 pre, .int .i64 n] 31)).heap.size := by simp
    go_enter Try.func21, Try.ntmps21
    go_wp2_with fail
    obtain ⟨W, hW⟩ : ∃ W, w.alloc (.cells #[.int .i64 5, .slice an nl cn, .slice ah hl ch, .int .i64 half, .int .i64 age, .int .i64 id, .int .i64 ten, .int .i64 pods, .int .i64 x, .int .i64 y, .int .i64 z, .int .i64 run, .int .i64 lev, .int .i64 pre, .int .i64 n] 31) = W := ⟨_, rfl⟩
    rw [hW] at gW hh hlt ⊢
    clear hW
    have GW := Lib.hid gW
    have HQ := Lib.hid (fun w2 (g : Below W.heap.size W w2) => hh.kept hlt g); clear hh hlt gW
    refine (C0.out _).mono ?_
    rintro er w1 ⟨rfl, b1⟩
    have B1 := Lib.hid b1; clear b1
    have c0 : w1.cell? ⟨w.heap.size, 0, none⟩ = some (.int .i64 5) := HQ.out w1 B1.out 0 _ rfl
    have c1 : w1.cell? ⟨w.heap.size, 1, none⟩ = some (.slice an nl cn) := HQ.out w1 B1.out 1 _ rfl
    have c2 : w1.cell? ⟨w.heap.size, 2, none⟩ = some (.slice ah hl ch) := HQ.out w1 B1.out 2 _ rfl
    have c3 : w1.cell? ⟨w.heap.size, 3, none⟩ = some (.int .i64 half) := HQ.out w1 B1.out 3 _ rfl
    have c4 : w1.cell? ⟨w.heap.size, 4, none⟩ = some (.int .i64 age) := HQ.out w1 B1.out 4 _ rfl
    have c5 : w1.cell? ⟨w.heap.size, 5, none⟩ = some (.int .i64 id) := HQ.out w1 B1.out 5 _ rfl
    have c6 : w1.cell? ⟨w.heap.size, 6, none⟩ = some (.int .i64 ten) := HQ.out w1 B1.out 6 _ rfl
    have c7 : w1.cell? ⟨w.heap.size, 7, none⟩ = some (.int .i64 pods) := HQ.out w1 B1.out 7 _ rfl
    have c8 : w1.cell? ⟨w.heap.size, 8, none⟩ = some (.int .i64 x) := HQ.out w1 B1.out 8 _ rfl
    have c9 : w1.cell? ⟨w.heap.size, 9, none⟩ = some (.int .i64 y) := HQ.out w1 B1.out 9 _ rfl
    have c10 : w1.cell? ⟨w.heap.size, 10, none⟩ = some (.int .i64 z) := HQ.out w1 B1.out 10 _ rfl
    have c11 : w1.cell? ⟨w.heap.size, 11, none⟩ = some (.int .i64 run) := HQ.out w1 B1.out 11 _ rfl
    have c12 : w1.cell? ⟨w.heap.size, 12, none⟩ = some (.int .i64 lev) := HQ.out w1 B1.out 12 _ rfl
    have c13 : w1.cell? ⟨w.heap.size, 13, none⟩ = some (.int .i64 pre) := HQ.out w1 B1.out 13 _ rfl
    have c14 : w1.cell? ⟨w.heap.size, 14, none⟩ = some (.int .i64 n) := HQ.out w1 B1.out 14 _ rfl
    go_wp2_with fail
    refine (A0.out _).mono ?_
    rintro er w2 ⟨rfl, b2⟩
    have B2 := Lib.hid (below_trans B1.out b2); clear b2 c0 c1 c2 c3 c4 c5 c6 c7 c8 c9 c10 c11 c12 c13 c14
    go_wp2_with fail
    go_ret
    exact ⟨rfl, below_trans GW.out B2.out⟩

end Go.Proofs.Ytpnfhcpapjomnaa

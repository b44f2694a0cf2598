/- The landed commands: Encode. -/
import Derived.Test.YtpnfhcpapjomnaaPcD
import Derived.Test.YtpnfhcpapjomnaaPcF
namespace Go.Proofs.Ytpnfhcpapjomnaa
open Go.RowKit
set_option linter.unusedVariables false

set_option maxHeartbeats 2000000 in
set_option maxRecDepth 8000 in
theorem cEncodeAt {c : Cmd} {vn vh : Value} {w : World} (h : CmAt c vn vh w) : Calls Try.prog 10 #[.agg (c.c vn vh)] w (RetBelow (.tuple #[.string (Cm.encode c).1, .int .i64 (Cm.encode c).2]) w) := by
  have henc : Cm.encode c = if Cm.check c ≠ 0 then (⟨#[]⟩, Cm.check c) else (Cm.put c, 0) := rfl
  obtain ⟨R, hR⟩ : ∃ r, Cm.encode c = r := ⟨_, rfl⟩
  rw [hR] at henc ⊢
  obtain ⟨r0, r1⟩ := R
  have hck := fun w2 (g : Below w.heap.size w w2) => cCheckAt (h.kept g)
  have hall : Cm.check c = 0 → 1 ≤ c.kind ∧ c.kind ≤ 6 ∧ (c.kind = 1 → Cm.okC c = true ∧ c.nodes.length ≤ 12 ∧ c.hosts.length ≤ 24) ∧ (c.kind = 2 → Cm.okG c.gang = true) ∧ (c.kind = 3 ∨ c.kind = 4 ∨ c.kind = 5 → Cm.ok c.n = true) := fun e => by
    obtain ⟨hf, h1, h2⟩ := Cm.check_zero e
    obtain ⟨k1, k2, k3⟩ := check_all e
    have hk := Cm.fine_kind hf
    exact ⟨hk.1, hk.2, fun e => ⟨k1 e, h1, h2⟩, k2, k3⟩
  have hpc : ∀ w2, Below w.heap.size w w2 → Cm.okC c = true ∧ c.nodes.length ≤ 12 ∧ c.hosts.length ≤ 24 → Calls Try.prog 19 #[.agg #[vn, vh, .int .i64 c.half, .int .i64 c.age]] w2 (RetBelow (.string (Cm.pC c)) w2) := fun w2 g e => by
    obtain ⟨an, cn, nb, no, ah, ch, hb, hbo, rfl, rfl, s1, s2⟩ := h
    exact putConfig_any c e.1 e.2.1 e.2.2 an ah cn ch nb no hb hbo w2 (s1.kept g) (s2.kept g)
  have hpg := fun (e : Cm.okG c.gang = true) w => cPutGang_any c.gang e w
  have zC := fun (e : Cm.okC c = true ∧ c.nodes.length ≤ 12 ∧ c.hosts.length ≤ 24) => Cm.pC_size e.1 e.2.1 e.2.2
  have zG := fun (e : Cm.okG c.gang = true) => Cm.pG_size e
  have hput : Cm.put c = Cm.pn c.kind ++ (if c.kind = 1 then Cm.pC c else if c.kind = 2 then Cm.pG c.gang else if c.kind = 6 then ⟨#[]⟩ else Cm.pn c.n) := rfl
  obtain ⟨an, nl, cn, ah, hl, ch, rfl, rfl⟩ := h.slices
  clear h hR
  obtain ⟨ck, hckk⟩ : ∃ v, Cm.check c = v := ⟨_, rfl⟩
  obtain ⟨PC, hPC⟩ : ∃ v, Cm.pC c = v := ⟨_, rfl⟩
  obtain ⟨PG, hPG⟩ : ∃ v, Cm.pG c.gang = v := ⟨_, rfl⟩
  obtain ⟨PT, hPT⟩ : ∃ v, Cm.put c = v := ⟨_, rfl⟩
  rw [hckk] at henc hck hall
  rw [hPC] at hpc hput zC
  rw [hPG] at hpg hput zG
  rw [hPT] at henc hput
  clear hckk hPC hPG hPT
  obtain ⟨kind, nodes, hosts, half, age, ⟨id, ten, pods, ⟨x, y, z⟩, run, lev, pre⟩, n⟩ := c
  simp only [Cmd.c, Gg.c] at *
  obtain ⟨pk, hpk⟩ : ∃ v, Cm.pn kind = v := ⟨_, rfl⟩
  obtain ⟨pN, hpN⟩ : ∃ v, Cm.pn n = v := ⟨_, rfl⟩
  have ckd := fun (h : -9223372036854775808 ≤ kind ∧ kind < 9223372036854775808) w => cPn_any kind h.1 h.2 w
  have cnn := fun (h : -9223372036854775808 ≤ n ∧ n < 9223372036854775808) w => cPn_any n h.1 h.2 w
  have zk := fun (h : kind < 9223372036854775808) => Cm.pn_size kind h
  have zn := fun (h : n < 9223372036854775808) => Cm.pn_size n h
  rw [hpk] at ckd zk hput
  rw [hpN] at cnn zn hput
  clear hpk hpN
  have h0 := Holds.new w #[.int .i64 kind, .slice an nl cn, .slice ah hl ch, .int .i64 half, .int .i64 age, .int .i64 id, .int .i64 ten, .int .i64 pods, .int .i64 x, .int .i64 y, .int .i64 z, .int .i64 run, .int .i64 lev, .int .i64 pre, .int .i64 n] 31
  have g0 : Below w.heap.size w (w.alloc (.cells #[.int .i64 kind, .slice an nl cn, .slice ah hl ch, .int .i64 half, .int .i64 age, .int .i64 id, .int .i64 ten, .int .i64 pods, .int .i64 x, .int .i64 y, .int .i64 z, .int .i64 run, .int .i64 lev, .int .i64 pre, .int .i64 n] 31)) := (Below.refl _ _).alloc (Nat.le_refl _) _
  have z0 : w.heap.size < (w.alloc (.cells #[.int .i64 kind, .slice an nl cn, .slice ah hl ch, .int .i64 half, .int .i64 age, .int .i64 id, .int .i64 ten, .int .i64 pods, .int .i64 x, .int .i64 y, .int .i64 z, .int .i64 run, .int .i64 lev, .int .i64 pre, .int .i64 n] 31)).heap.size := by simp
  have HEN := Lib.hid henc; have HCK := Lib.hid hck; have HALL := Lib.hid hall; have HPC := Lib.hid hpc; have HPG := Lib.hid hpg; have ZC := Lib.hid zC; have ZG := Lib.hid zG; have HPU := Lib.hid hput
  have CKD := Lib.hid ckd; have CNN := Lib.hid cnn; have ZK := Lib.hid zk; have ZN := Lib.hid zn; have H0 := Lib.hid h0; have G0 := Lib.hid g0; have Z0 := Lib.hid z0
  clear henc hck hall hpc hpg zC zG hput ckd cnn zk zn h0 g0 z0
  go_enter Try.func10, Try.ntmps10
  go_wp2_with fail
  refine (HCK.out _ G0.out).mono ?_
  rintro er w2 ⟨rfl, b2⟩
  have o2 := H0.out.kept Z0.out b2
  have z2 := Nat.lt_of_lt_of_le Z0.out b2.size
  have O2 := Lib.hid o2; have G2 := Lib.hid (below_trans G0.out b2); have Z2 := Lib.hid z2
  clear b2 o2 z2
  by_cases h0 : ck = 0
  case neg =>
    have hr := HEN.out
    rw [if_pos h0] at hr
    obtain ⟨rfl, rfl⟩ := Prod.mk.inj hr
    have h0' : (r1 != 0) = true := by simpa using h0
    clear hr
    go_wp2_with fail
    go_ret2
    exact ⟨rfl, G2.out⟩
  subst h0
  obtain ⟨hk1, hk6, a1, a2, a3⟩ := HALL.out rfl
  have hr := HEN.out
  rw [if_neg (by simp)] at hr
  obtain ⟨hr0, rfl⟩ := Prod.mk.inj hr
  have HR0 := Lib.hid hr0; have A1 := Lib.hid a1; have A2 := Lib.hid a2; have A3 := Lib.hid a3
  have pz := ZK.out (by omega)
  clear hr hr0 a1 a2 a3
  have c0 : w2.cell? ⟨w.heap.size, 0, none⟩ = some (.int .i64 kind) := O2.out 0 _ rfl
  go_wp2_with fail
  refine (CKD.out (by omega) _).mono ?_
  rintro er w3 ⟨rfl, b3⟩
  have o3 := O2.out.kept Z2.out b3
  have O3 := Lib.hid o3; have G3 := Lib.hid (below_trans G2.out b3)
  clear b3 o3 c0
  have c0 : w3.cell? ⟨w.heap.size, 0, none⟩ = some (.int .i64 kind) := O3.out 0 _ rfl
  by_cases k1 : kind = 1
  · subst k1
    have hp := HPU.out
    rw [if_pos rfl] at hp
    have hrr : Hid (r0 = pk ++ PC) := Lib.hid (HR0.out.trans hp)
    have zc := ZC.out (A1.out rfl)
    clear hp
    have c1 : w3.cell? ⟨w.heap.size, 1, none⟩ = some (.slice an nl cn) := O3.out 1 _ rfl
    have c2 : w3.cell? ⟨w.heap.size, 2, none⟩ = some (.slice ah hl ch) := O3.out 2 _ rfl
    have c3 : w3.cell? ⟨w.heap.size, 3, none⟩ = some (.int .i64 half) := O3.out 3 _ rfl
    have c4 : w3.cell? ⟨w.heap.size, 4, none⟩ = some (.int .i64 age) := O3.out 4 _ rfl
    go_wp2_with fail
    refine (HPC.out _ G3.out (A1.out (by trivial))).mono ?_
    rintro er w4 ⟨rfl, b4⟩
    have G4 := Lib.hid (below_trans G3.out b4)
    clear b4 c0 c1 c2 c3 c4
    go_wp2_with fail
    go_ret2
    exact ⟨by rw [hrr.out]; rfl, G4.out⟩
  by_cases k2 : kind = 2
  · subst k2
    have hp := HPU.out
    rw [if_neg k1, if_pos rfl] at hp
    have hrr : Hid (r0 = pk ++ PG) := Lib.hid (HR0.out.trans hp)
    have zc := ZG.out (A2.out rfl)
    clear hp
    have c5 : w3.cell? ⟨w.heap.size, 5, none⟩ = some (.int .i64 id) := O3.out 5 _ rfl
    have c6 : w3.cell? ⟨w.heap.size, 6, none⟩ = some (.int .i64 ten) := O3.out 6 _ rfl
    have c7 : w3.cell? ⟨w.heap.size, 7, none⟩ = some (.int .i64 pods) := O3.out 7 _ rfl
    have c8 : w3.cell? ⟨w.heap.size, 8, none⟩ = some (.int .i64 x) := O3.out 8 _ rfl
    have c9 : w3.cell? ⟨w.heap.size, 9, none⟩ = some (.int .i64 y) := O3.out 9 _ rfl
    have c10 : w3.cell? ⟨w.heap.size, 10, none⟩ = some (.int .i64 z) := O3.out 10 _ rfl
    have c11 : w3.cell? ⟨w.heap.size, 11, none⟩ = some (.int .i64 run) := O3.out 11 _ rfl
    have c12 : w3.cell? ⟨w.heap.size, 12, none⟩ = some (.int .i64 lev) := O3.out 12 _ rfl
    have c13 : w3.cell? ⟨w.heap.size, 13, none⟩ = some (.int .i64 pre) := O3.out 13 _ rfl
    go_wp2_with fail
    refine (HPG.out (A2.out (by trivial)) _).mono ?_
    rintro er w4 ⟨rfl, b4⟩
    have G4 := Lib.hid (below_trans G3.out b4)
    clear b4 c0 c5 c6 c7 c8 c9 c10 c11 c12 c13
    go_wp2_with fail
    go_ret2
    exact ⟨by rw [hrr.out]; rfl, G4.out⟩
  have k1' : (kind == 1) = false := by simpa using k1
  have k2' : (kind == 2) = false := by simpa using k2
  by_cases k6 : kind = 6
  · subst k6
    have hp := HPU.out
    rw [if_neg k1, if_neg k2, if_pos rfl, Cm.ba_right] at hp
    have hrr : Hid (r0 = pk) := Lib.hid (HR0.out.trans hp)
    clear hp
    go_wp2_with fail
    go_ret2
    exact ⟨by rw [hrr.out]; rfl, G3.out⟩
  have k6' : (kind == 6) = false := by simpa using k6
  have hp := HPU.out
  rw [if_neg k1, if_neg k2, if_neg k6] at hp
  have hrr : Hid (r0 = pk ++ pN) := Lib.hid (HR0.out.trans hp)
  have hno := (Cm.ok_iff n).1 (A3.out (by omega))
  have zc := ZN.out (by omega)
  have HNO := Lib.hid hno
  clear hp hno
  have c14 : w3.cell? ⟨w.heap.size, 14, none⟩ = some (.int .i64 n) := O3.out 14 _ rfl
  go_wp2_with fail
  refine (CNN.out (by have := HNO.out; omega) _).mono ?_
  rintro er w4 ⟨rfl, b4⟩
  have G4 := Lib.hid (below_trans G3.out b4)
  clear b4 c0 c14
  go_wp2_with fail
  go_ret2
  exact ⟨by rw [hrr.out]; rfl, G4.out⟩

end Go.Proofs.Ytpnfhcpapjomnaa

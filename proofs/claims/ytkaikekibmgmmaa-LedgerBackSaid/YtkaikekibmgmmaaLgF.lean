/- Ledgers: the statement's walk: there and back. -/
import Derived.Test.YtkaikekibmgmmaaLgE
namespace Go.Proofs.Ytkaikekibmgmmaa
open Go.RowKit
set_option linter.unusedVariables false

namespace Lg
def tk (d : De) : De := ⟨false, d.t, d.v⟩
theorem tk_at {ds : List De} {i : Nat} {d : De} (h : ds[i]? = some d) : (ds.map tk)[i]? = some (tk d) := by rw [List.getElem?_map, h]; rfl
theorem takes (ns : List Nd) (L : List V3) (M t : Int) (v : V3) (h : Ok ns L M) (hM : M ≤ 1048576000 - 1048576) :
    (take ns L t v = (L, 1) ∧ Cf.valid v = false) ∨ (take ns L t v = (L, 3) ∧ Cf.valid v = true) ∨ ∃ L1, take ns L t v = (L1, 0) ∧ give ns L1 t v = (L, 0) ∧ Ok ns L1 (M + 1048576) := by
  cases hv : Cf.valid v with
  | false => exact .inl ⟨by rw [take, if_pos hv], rfl⟩
  | true =>
    cases hl : Cf.leaf ns t with
    | false => exact .inr (.inl ⟨by rw [take, if_neg (by simp [hv]), if_pos hl], rfl⟩)
    | true =>
      have e : take ns L t v = (upd (fun u => Qt.add u v) (Qt.path ns t) L, 0) := by rw [take, if_neg (by simp [hv]), if_neg (by simp [hl])]
      have g := take_give t v h hM (by rw [e])
      have o := take_ok t v h (by omega)
      rw [e] at g o
      exact .inr (.inr ⟨_, e, g, o⟩)
end Lg

structure LbSo (C : LgC) (w : World) (D : Nat) (F : Nat → Prop) (j : Nat) (c : Cmd) (C4 D5 : Array Value) (L : List V3) (wr : World) : Prop where
  so : LsSo C w D F j c C4 L wr
  arg : Row wr (w.heap.size + 1) D5 37
theorem LbSo.under {C : LgC} {w : World} {D : Nat} {F : Nat → Prop} {j : Nat} {c : Cmd} {C4 D5 : Array Value} {L : List V3} {wr wz : World} (h : LbSo C w D F j c C4 D5 L wr) (g : Below wr.heap.size wr wz) : LbSo C w D F j c C4 D5 L wz :=
  ⟨h.so.under (fun _ _ => .inr trivial) g, h.arg.under g⟩
theorem LbSo.step {C : LgC} {w : World} {D : Nat} {F : Nat → Prop} {j : Nat} {c : Cmd} {C4 D5 : Array Value} {L L' : List V3} {wr wz : World} (h : LbSo C w D F j c C4 D5 L wr) (hF : ∀ k, k < w.heap.size + 2 → F k) (a : C.At D wz F j c L') (g : Kp F wr wz) : LbSo C w D F j c C4 D5 L' wz :=
  ⟨h.so.step (fun k hk => hF k (by omega)) a g, (g.block _ (hF _ (by omega))).trans h.arg⟩
theorem LbSo.more {C : LgC} {w : World} {D : Nat} {F G : Nat → Prop} {j : Nat} {c : Cmd} {C4 D5 : Array Value} {L L' : List V3} {wr wz : World} (h : LbSo C w D F j c C4 D5 L wr) (hF : ∀ k, k < w.heap.size + 2 → F k) (a : C.At D wz G j c L') (g : Kp F wr wz) : LbSo C w D G j c C4 D5 L' wz :=
  ⟨⟨a, (g.block _ (hF _ (by omega))).trans h.so.box, h.so.low.trans (g.below (fun k hk => hF k (by omega)))⟩, (g.block _ (hF _ (by omega))).trans h.arg⟩

set_option maxHeartbeats 2000000 in
set_option maxRecDepth 8000 in
theorem LedgerBack_walk (C : LgC) {c : Cmd} {vn vh : Value} {ds : List De} {ao : Option Addr} {cap bb oo : Nat} {w : World} (h : CmAt c vn vh w) (hw : c.wide) (hU : Sl De.c 26 5 w ao cap bb oo ds) (hu : ∀ d ∈ ds, d.wide) {e0 : De} (he : e0.wide) :
    Calls Try.prog 6 #[.agg (c.f vn vh), .slice ao ds.length cap, .agg e0.c] w (RetBelow (.bool true) w) := by
  have cA := Lib.hid (lgAwake_any C)
  have ck := fun w2 (g : Below w.heap.size w w2) => rCheck9At (h.kept g)
  have cn := fun (e : Cf.check c = 0) w2 (g : Below w.heap.size w w2) => C.new h hw e g
  have hok := fun i (e : i ≤ 200) => Lg.run_ok c.nodes (ds.map Lg.tk) i e
  have hsuc := fun i d (e : ds[i]? = some d) => Lg.run_succ (ns := c.nodes) (Lg.tk_at e)
  have h0 : Lg.run c.nodes (ds.map Lg.tk) 0 = List.replicate c.nodes.length Qt.z3 := rfl
  have cvl := fun w2 => rValid3 e0.v w2
  have hnl12 := fun (e : Cf.check c = 0) => Qt.check_few e
  obtain ⟨an, cn', nb, no, ah, ch, hb, hbo, rfl, rfl, s1, s2⟩ := h
  obtain ⟨f, hf⟩ : ∃ f : Nat → List V3, Lg.run c.nodes (ds.map Lg.tk) = f := ⟨_, rfl⟩
  rw [hf] at h0
  simp only [hf] at hok hsuc
  simp only [← h0] at cn
  have hdw := fun (i : Nat) d (e : ds[i]? = some d) => hu d (List.mem_of_getElem? e)
  have hde := fun (i : Nat) (e : i < ds.length) => (show ∃ d, ds[i]? = some d from ⟨_, List.getElem?_eq_getElem e⟩)
  have hdi := hU.idx
  have d63 := hU.small
  obtain ⟨CK, hCK⟩ : ∃ x, Cf.check c = x := ⟨_, rfl⟩
  rw [hCK] at ck cn hnl12
  obtain ⟨nl, hnlE⟩ : ∃ n, c.nodes.length = n := ⟨_, rfl⟩
  obtain ⟨hl, hhlE⟩ : ∃ n, c.hosts.length = n := ⟨_, rfl⟩
  obtain ⟨dl, hdlE⟩ : ∃ n, ds.length = n := ⟨_, rfl⟩
  obtain ⟨zd, hzd⟩ : ∃ z : Int, (dl : Int) = z := ⟨_, rfl⟩
  obtain ⟨zn, hzn⟩ : ∃ z : Int, (nl : Int) = z := ⟨_, rfl⟩
  rw [hnlE] at hnl12
  rw [hdlE] at hde hdi d63
  simp only [Cmd.f] at ck cn
  rw [hnlE, hhlE] at ck cn
  rw [hdlE]
  simp only [Cmd.f]
  rw [hnlE, hhlE]
  obtain ⟨half, hha⟩ : ∃ x, c.half = x := ⟨_, rfl⟩
  obtain ⟨age, hag⟩ : ∃ x, c.age = x := ⟨_, rfl⟩
  rw [hha, hag] at ck cn
  rw [hha, hag]
  have HNLE := Lib.hid hnlE
  clear hha hag hnlE hhlE hdlE hw hu hCK hf h0 s1 s2
  have CK1 := Lib.hid ck; have CN := Lib.hid cn; have HOK := Lib.hid hok; have HSUC := Lib.hid hsuc; have CVL := Lib.hid cvl; have HE := Lib.hid he; have HDW := Lib.hid hdw; have HDE := Lib.hid hde; have HDI := Lib.hid hdi; have HU := Lib.hid hU
  clear ck cn hok hsuc hnl12 hdw hde hdi hU cvl he
  obtain ⟨gb, t0, x1, x2, x3⟩ := e0
  simp only [De.c] at *
  have box0 := (Row.new w #[.slice an nl cn', .slice ah hl ch, .int .i64 half, .int .i64 age] 25).under ((Below.refl _ _).alloc (Nat.le_refl _) (.cells #[.bool gb, .int .i64 t0, .int .i64 x1, .int .i64 x2, .int .i64 x3] 37))
  have arg0 := Row.new (w.alloc (.cells #[.slice an nl cn', .slice ah hl ch, .int .i64 half, .int .i64 age] 25)) #[.bool gb, .int .i64 t0, .int .i64 x1, .int .i64 x2, .int .i64 x3] 37
  rw [World.size_alloc] at arg0
  have g0 := Lib.hid (two_below w (.cells #[.slice an nl cn', .slice ah hl ch, .int .i64 half, .int .i64 age] 25) (.cells #[.bool gb, .int .i64 t0, .int .i64 x1, .int .i64 x2, .int .i64 x3] 37))
  have z0 : ((w.alloc (.cells #[.slice an nl cn', .slice ah hl ch, .int .i64 half, .int .i64 age] 25)).alloc (.cells #[.bool gb, .int .i64 t0, .int .i64 x1, .int .i64 x2, .int .i64 x3] 37)).heap.size = w.heap.size + 2 := by rw [World.size_alloc, World.size_alloc]
  go_enter Try.func6, Try.ntmps6
  go_upto_region 1 with fail
  obtain ⟨w0, hw0⟩ : ∃ v, (w.alloc (.cells #[.slice an nl cn', .slice ah hl ch, .int .i64 half, .int .i64 age] 25)).alloc (.cells #[.bool gb, .int .i64 t0, .int .i64 x1, .int .i64 x2, .int .i64 x3] 37) = v := ⟨_, rfl⟩
  rw [hw0] at box0 arg0 g0 z0 ⊢
  clear hw0
  have B0 := Lib.hid box0; have Z0 := Lib.hid z0; have A0 := Lib.hid arg0
  clear box0 z0 arg0
  have d0 : w0.cell? ⟨w.heap.size, 0, none⟩ = some (.slice an nl cn') := B0.out.at_ 0
  have d1 : w0.cell? ⟨w.heap.size, 1, none⟩ = some (.slice ah hl ch) := B0.out.at_ 1
  have d2 : w0.cell? ⟨w.heap.size, 2, none⟩ = some (.int .i64 half) := B0.out.at_ 2
  have d3 : w0.cell? ⟨w.heap.size, 3, none⟩ = some (.int .i64 age) := B0.out.at_ 3
  go_wp2_with fail
  refine (CK1.out _ g0.out).mono ?_
  rintro er w1 ⟨rfl, b1⟩
  have G1 := Lib.hid (below_trans g0.out b1); have B1 := Lib.hid (B0.out.under b1); have A1 := Lib.hid (A0.out.under b1); have Z1 := Lib.hid (show w.heap.size + 2 ≤ w1.heap.size by have := b1.size; have := Z0.out; omega)
  clear b1 d0 d1 d2 d3
  obtain hc0 | hc0 := (Decidable.em (CK = 0)).symm
  · go_wp2_with fail
    refine (cA.out _).mono ?_
    rintro er wz ⟨rfl, bz⟩
    have GZ := Lib.hid (below_trans G1.out bz); clear bz
    go_wp2_with fail
    go_ret
    exact ⟨rfl, GZ.out⟩
  subst hc0
  have d0 : w1.cell? ⟨w.heap.size, 0, none⟩ = some (.slice an nl cn') := B1.out.at_ 0
  have d1 : w1.cell? ⟨w.heap.size, 1, none⟩ = some (.slice ah hl ch) := B1.out.at_ 1
  have d2 : w1.cell? ⟨w.heap.size, 2, none⟩ = some (.int .i64 half) := B1.out.at_ 2
  have d3 : w1.cell? ⟨w.heap.size, 3, none⟩ = some (.int .i64 age) := B1.out.at_ 3
  go_wp2_with fail
  refine (CN.out (by trivial) _ G1.out).mono ?_
  rintro er w2 ⟨j, rfl, a2, b2⟩
  have hF : Hid (∀ k, k < w.heap.size + 2 → k < w1.heap.size) := Lib.hid (fun k hk => by have := Z1.out; omega)
  have S2 := Lib.hid (show LbSo C w w.heap.size (fun k => k < w1.heap.size) j c #[.slice an nl cn', .slice ah hl ch, .int .i64 half, .int .i64 age] #[.bool gb, .int .i64 t0, .int .i64 x1, .int .i64 x2, .int .i64 x3] (f 0) w2 from ⟨⟨a2, B1.out.under b2, below_trans G1.out b2⟩, A1.out.under b2⟩)
  clear a2 b2 d0 d1 d2 d3
  go_wp2_with fail
  go_loopw [8] (fun i wr => ∃ (k : Int), i = .int .i64 k ∧ 0 ≤ k ∧ k ≤ zd ∧ k ≤ 60 ∧ Hid (LbSo C w w.heap.size (fun k => k < w1.heap.size) j c #[.slice an nl cn', .slice ah hl ch, .int .i64 half, .int .i64 age] #[.bool gb, .int .i64 t0, .int .i64 x1, .int .i64 x2, .int .i64 x3] (f k.toNat) wr)) (fun i _ => (zd - intOf i).toNat)
  case atStart => exact ⟨0, rfl, by omega, by omega, by omega, S2.out⟩
  case round =>
    obtain ⟨k, rfl, hk0, hkz, hk1, hd⟩ := hrel
    by_cases hlt : k < zd ∧ k < 60
    · obtain ⟨hlt, hl1⟩ := hlt
      obtain ⟨d, hx⟩ := HDE.out k.toNat (by omega)
      have hi := HDI.out k.toNat (by omega)
      rw [show ((k.toNat : Nat) : Int) = k by omega] at hi
      have hdw := HDW.out k.toNat d hx
      have hsuc := HSUC.out k.toNat d hx
      have hok := HOK.out k.toNat (by omega)
      rw [show ((k.toNat : Nat) : Int) = k by omega] at hok
      obtain ⟨od, hod⟩ : ∃ n, oo + k.toNat * 5 = n := ⟨_, rfl⟩
      rw [hod] at hi
      have hrg := fun w9 (g : LbSo C w w.heap.size (fun k => k < w1.heap.size) j c #[.slice an nl cn', .slice ah hl ch, .int .i64 half, .int .i64 age] #[.bool gb, .int .i64 t0, .int .i64 x1, .int .i64 x2, .int .i64 x3] (f k.toNat) w9) => (show w9.rangeAt bb od d.c.toList from hod ▸ (HU.out.kept g.so.low).at_ k.toNat d hx)
      have ctk := fun w9 (g : LbSo C w w.heap.size (fun k => k < w1.heap.size) j c #[.slice an nl cn', .slice ah hl ch, .int .i64 half, .int .i64 age] #[.bool gb, .int .i64 t0, .int .i64 x1, .int .i64 x2, .int .i64 x3] (f k.toNat) w9) => C.take g.so.led (k * 1048576) d.t d.v hok (by omega) hdw.1 hdw.2
      rw [Lg.do1, Lg.tk, if_neg (by simp)] at hsuc
      obtain ⟨gv, t, v1, v2, v3⟩ := d
      simp only [De.c, V3.c] at hrg ctk hsuc
      have c1 := fun w9 g => (show w9.cell? ⟨bb, od + 1, none⟩ = some (.int .i64 t) from hrg w9 g 1 _ rfl)
      have cv := fun w9 g => (show w9.rangeAt bb (od + 2) [.int .i64 v1, .int .i64 v2, .int .i64 v3] from range_sub (hrg w9 g) 2 _ (by
        intro i x hx
        match i with
        | 0 => exact hx
        | 1 => exact hx
        | 2 => exact hx
        | i + 3 => simp at hx))
      have HI := Lib.hid hi; have HSUCC := Lib.hid hsuc; have CTK := Lib.hid ctk; have C1 := Lib.hid c1; have CV := Lib.hid cv; have HD := Lib.hid hd.out
      have HDR := Lib.hid (hd.out.under (below_drewN (Below.refl _ _) 1))
      clear hrg ctk hsuc c1 cv hok hdw hx hod hd
      go_wp2_with fail
      refine region_quiet_tail 11 (fun w9 => LbSo C w w.heap.size (fun k => k < w1.heap.size) j c #[.slice an nl cn', .slice ah hl ch, .int .i64 half, .int .i64 age] #[.bool gb, .int .i64 t0, .int .i64 x1, .int .i64 x2, .int .i64 x3] (f k.toNat) w9) (by kernel_rfl) (by kernel_rfl) HDR.out ?_
      simp only [List.take_succ_cons, List.take_zero, List.drop_succ_cons, List.drop_zero]
      repeat (first
        | (go_big_quiet_skip)
        | (with_reducible refine quiet_index 26 _ _ _ _ _ (fun w0 => HI.out w0) rfl rfl rfl ?_ ?_; (focus kernel_rfl); simp only [Act.put, List.setIfInBounds_toArray, List.set_cons_zero, List.set_cons_succ])
        | (refine quiet_cell _ _ 3 _ _ C1.out rfl rfl ?_ Try.underlying3 rfl ?_; (focus kernel_rfl); simp only [Act.put, List.setIfInBounds_toArray, List.set_cons_zero, List.set_cons_succ])
        | (refine quiet_mid bb (od + 2) _ 35 _ _ CV.out rfl rfl ?_ Try.underlying35 rfl ?_ ?_; (focus kernel_rfl); (focus kernel_rfl); simp only [Act.put, List.setIfInBounds_toArray, List.set_cons_zero, List.set_cons_succ])
        | (go_big_quiet_step ((intro g2; (with_reducible rfl)))))
      refine wpQuiet_nil ?_
      intro w9 g9
      have HG9 := Lib.hid g9
      clear g9 HDR C1 CV HI
      go_wp2_with fail
      refine (CTK.out _ HG9.out).mono ?_
      rintro er w10 ⟨rfl, a10, b10⟩
      have FIN := Lib.hid (HG9.out.step hF.out (HSUCC.out.symm ▸ a10) b10)
      clear a10 b10
      go_wp2_with fail
      go_roundw
      case rel => exact ⟨k + 1, rfl, by omega, by omega, by omega, by rw [show (k + 1).toNat = k.toNat + 1 by omega]; exact FIN.out⟩
      case measure => simp [intOf]; omega
    · have hok := HOK.out k.toNat (by omega)
      obtain ⟨M, hM⟩ : ∃ m : Int, ((k.toNat : Nat) : Int) * 1048576 = m := ⟨_, rfl⟩
      have hM1 : M ≤ 1048576000 - 1048576 := by omega
      obtain ⟨L, hL⟩ : ∃ l, f k.toNat = l := ⟨_, rfl⟩
      rw [hM, hL] at hok
      rw [hL] at hd
      have hlen := hok.1
      rw [HNLE.out] at hlen
      have cal := C.all hd.out.so.led M hok (by omega)
      rw [hlen] at cal
      have htk := Lg.takes c.nodes L M t0 ⟨x1, x2, x3⟩ hok hM1
      have HOKL := Lib.hid hok; have HLE := Lib.hid hlen; have CAL := Lib.hid cal; have HD := Lib.hid hd.out; have HTK := Lib.hid htk
      clear hok hlen cal hM hL hd htk HOK HSUC HDW HDE HDI HU S2
      rcases (show k < zd ∨ zd ≤ k by omega) with h1 | h1
      all_goals (
        go_wp2_with fail
        refine CAL.out.mono ?_
        rintro er w3 ⟨ao2, cap2, b2, rfl, sl, hb2, a3, b3⟩
        have T3 := Lib.hid (show LbSo C w w.heap.size (fun k => (fun k => k < w1.heap.size) k ∨ k = b2) j c #[.slice an nl cn', .slice ah hl ch, .int .i64 half, .int .i64 age] #[.bool gb, .int .i64 t0, .int .i64 x1, .int .i64 x2, .int .i64 x3] L w3 from HD.out.more hF.out a3 b3)
        have SW3 := Lib.hid sl
        have hF2 : Hid (∀ k, k < w.heap.size + 2 → (fun k => (fun k => k < w1.heap.size) k ∨ k = b2) k) := Lib.hid (fun k hk => .inl (hF.out k hk))
        clear sl hb2 a3 b3 CAL HD
        have p1 : w3.cell? ⟨w.heap.size + 1, 1, none⟩ = some (.int .i64 t0) := T3.out.arg.at_ 1
        have p2 : w3.cell? ⟨w.heap.size + 1, 2, none⟩ = some (.int .i64 x1) := T3.out.arg.at_ 2
        have p3 : w3.cell? ⟨w.heap.size + 1, 3, none⟩ = some (.int .i64 x2) := T3.out.arg.at_ 3
        have p4 : w3.cell? ⟨w.heap.size + 1, 4, none⟩ = some (.int .i64 x3) := T3.out.arg.at_ 4
        go_wp2_with fail
        refine (C.take T3.out.so.led M t0 ⟨x1, x2, x3⟩ HOKL.out (by omega) HE.out.1 HE.out.2).mono ?_
        rintro er w4 ⟨rfl, a4, b4⟩
        have SW4 := Lib.hid (SW3.out.kp b4 (.inr rfl))
        rcases HTK.out with ⟨e, hv⟩ | ⟨e, hv⟩ | ⟨L1, e, hg, ho⟩
        · rw [e] at a4 ⊢
          have T4 := Lib.hid (show LbSo C w w.heap.size (fun k => (fun k => k < w1.heap.size) k ∨ k = b2) j c #[.slice an nl cn', .slice ah hl ch, .int .i64 half, .int .i64 age] #[.bool gb, .int .i64 t0, .int .i64 x1, .int .i64 x2, .int .i64 x3] L w4 from T3.out.step hF2.out a4 b4)
          clear a4 b4 p1 p2 p3 p4 e T3 SW3
          have cal := C.all T4.out.so.led M HOKL.out (by omega)
          rw [HLE.out] at cal
          have CAL := Lib.hid cal
          clear cal
          go_wp2_with fail
          refine (CAL.out).mono ?_
          rintro er w5 ⟨ao3, cap3, b3, rfl, sl3, hb3, a5, k5⟩
          have T5 := Lib.hid (show LbSo C w w.heap.size (fun k => (fun k => (fun k => k < w1.heap.size) k ∨ k = b2) k ∨ k = b3) j c #[.slice an nl cn', .slice ah hl ch, .int .i64 half, .int .i64 age] #[.bool gb, .int .i64 t0, .int .i64 x1, .int .i64 x2, .int .i64 x3] L w5 from T4.out.more hF2.out a5 k5); have SW5 := Lib.hid (SW4.out.kp k5 (.inr rfl)); have S35 := Lib.hid sl3
          clear sl3 hb3 a5 k5
          have cli := rList3 L L S35.out SW5.out
          rw [show decide (L = L) = true by simp, HLE.out] at cli
          have CLI := Lib.hid cli
          clear cli
          go_wp2_with fail
          refine CLI.out.mono ?_
          rintro er w6 ⟨rfl, b6⟩
          have T6 := Lib.hid (T5.out.under b6)
          clear b6
          have p1 : w6.cell? ⟨w.heap.size + 1, 1, none⟩ = some (.int .i64 t0) := T6.out.arg.at_ 1
          have p2 : w6.cell? ⟨w.heap.size + 1, 2, none⟩ = some (.int .i64 x1) := T6.out.arg.at_ 2
          have p3 : w6.cell? ⟨w.heap.size + 1, 3, none⟩ = some (.int .i64 x2) := T6.out.arg.at_ 3
          have p4 : w6.cell? ⟨w.heap.size + 1, 4, none⟩ = some (.int .i64 x3) := T6.out.arg.at_ 4
          have cvl := CVL.out
          rw [hv] at cvl
          have CVV := Lib.hid cvl
          clear cvl hv
          go_wp2_with fail
          refine (CVV.out _).mono ?_
          rintro er w7 ⟨rfl, b7⟩
          have LOW := Lib.hid (below_trans T6.out.so.low b7)
          clear b7 p1 p2 p3 p4
          go_wp2_with fail
          refine (cA.out _).mono ?_
          rintro er wz ⟨rfl, bz⟩
          have GZ := Lib.hid (below_trans LOW.out bz); clear bz
          go_wp2_with fail
          go_ret
          exact ⟨rfl, GZ.out⟩
        · rw [e] at a4 ⊢
          have T4 := Lib.hid (show LbSo C w w.heap.size (fun k => (fun k => k < w1.heap.size) k ∨ k = b2) j c #[.slice an nl cn', .slice ah hl ch, .int .i64 half, .int .i64 age] #[.bool gb, .int .i64 t0, .int .i64 x1, .int .i64 x2, .int .i64 x3] L w4 from T3.out.step hF2.out a4 b4)
          clear a4 b4 p1 p2 p3 p4 e T3 SW3
          have cal := C.all T4.out.so.led M HOKL.out (by omega)
          rw [HLE.out] at cal
          have CAL := Lib.hid cal
          clear cal
          go_wp2_with fail
          refine (CAL.out).mono ?_
          rintro er w5 ⟨ao3, cap3, b3, rfl, sl3, hb3, a5, k5⟩
          have T5 := Lib.hid (show LbSo C w w.heap.size (fun k => (fun k => (fun k => k < w1.heap.size) k ∨ k = b2) k ∨ k = b3) j c #[.slice an nl cn', .slice ah hl ch, .int .i64 half, .int .i64 age] #[.bool gb, .int .i64 t0, .int .i64 x1, .int .i64 x2, .int .i64 x3] L w5 from T4.out.more hF2.out a5 k5); have SW5 := Lib.hid (SW4.out.kp k5 (.inr rfl)); have S35 := Lib.hid sl3
          clear sl3 hb3 a5 k5
          have cli := rList3 L L S35.out SW5.out
          rw [show decide (L = L) = true by simp, HLE.out] at cli
          have CLI := Lib.hid cli
          clear cli
          go_wp2_with fail
          refine CLI.out.mono ?_
          rintro er w6 ⟨rfl, b6⟩
          have T6 := Lib.hid (T5.out.under b6)
          clear b6
          have p1 : w6.cell? ⟨w.heap.size + 1, 1, none⟩ = some (.int .i64 t0) := T6.out.arg.at_ 1
          have p2 : w6.cell? ⟨w.heap.size + 1, 2, none⟩ = some (.int .i64 x1) := T6.out.arg.at_ 2
          have p3 : w6.cell? ⟨w.heap.size + 1, 3, none⟩ = some (.int .i64 x2) := T6.out.arg.at_ 3
          have p4 : w6.cell? ⟨w.heap.size + 1, 4, none⟩ = some (.int .i64 x3) := T6.out.arg.at_ 4
          have cvl := CVL.out
          rw [hv] at cvl
          have CVV := Lib.hid cvl
          clear cvl hv
          go_wp2_with fail
          refine (CVV.out _).mono ?_
          rintro er w7 ⟨rfl, b7⟩
          have LOW := Lib.hid (below_trans T6.out.so.low b7)
          clear b7 p1 p2 p3 p4
          go_wp2_with fail
          refine (cA.out _).mono ?_
          rintro er wz ⟨rfl, bz⟩
          have GZ := Lib.hid (below_trans LOW.out bz); clear bz
          go_wp2_with fail
          go_ret
          exact ⟨rfl, GZ.out⟩
        · rw [e] at a4 ⊢
          have T40 := Lib.hid (show LbSo C w w.heap.size (fun k => (fun k => k < w1.heap.size) k ∨ k = b2) j c #[.slice an nl cn', .slice ah hl ch, .int .i64 half, .int .i64 age] #[.bool gb, .int .i64 t0, .int .i64 x1, .int .i64 x2, .int .i64 x3] L1 w4 from T3.out.step hF2.out a4 b4)
          have SW40 := SW4
          clear a4 b4 p1 p2 p3 p4 e T3 SW3 SW4
          have p1 : w4.cell? ⟨w.heap.size + 1, 1, none⟩ = some (.int .i64 t0) := T40.out.arg.at_ 1
          have p2 : w4.cell? ⟨w.heap.size + 1, 2, none⟩ = some (.int .i64 x1) := T40.out.arg.at_ 2
          have p3 : w4.cell? ⟨w.heap.size + 1, 3, none⟩ = some (.int .i64 x2) := T40.out.arg.at_ 3
          have p4 : w4.cell? ⟨w.heap.size + 1, 4, none⟩ = some (.int .i64 x3) := T40.out.arg.at_ 4
          go_wp2_with fail
          refine (C.give T40.out.so.led (M + 1048576) t0 ⟨x1, x2, x3⟩ ho (by omega) HE.out.1 HE.out.2).mono ?_
          rintro er w41 ⟨rfl, a41, b41⟩
          rw [hg] at a41 ⊢
          have T4 := Lib.hid (show LbSo C w w.heap.size (fun k => (fun k => k < w1.heap.size) k ∨ k = b2) j c #[.slice an nl cn', .slice ah hl ch, .int .i64 half, .int .i64 age] #[.bool gb, .int .i64 t0, .int .i64 x1, .int .i64 x2, .int .i64 x3] L w41 from T40.out.step hF2.out a41 b41); have SW4 := Lib.hid (SW40.out.kp b41 (.inr rfl))
          clear a41 b41 p1 p2 p3 p4 hg ho T40 SW40
          have cal := C.all T4.out.so.led M HOKL.out (by omega)
          rw [HLE.out] at cal
          have CAL := Lib.hid cal
          clear cal
          go_wp2_with fail
          refine (CAL.out).mono ?_
          rintro er w5 ⟨ao3, cap3, b3, rfl, sl3, hb3, a5, k5⟩
          have T5 := Lib.hid (show LbSo C w w.heap.size (fun k => (fun k => (fun k => k < w1.heap.size) k ∨ k = b2) k ∨ k = b3) j c #[.slice an nl cn', .slice ah hl ch, .int .i64 half, .int .i64 age] #[.bool gb, .int .i64 t0, .int .i64 x1, .int .i64 x2, .int .i64 x3] L w5 from T4.out.more hF2.out a5 k5); have SW5 := Lib.hid (SW4.out.kp k5 (.inr rfl)); have S35 := Lib.hid sl3
          clear sl3 hb3 a5 k5
          have cli := rList3 L L S35.out SW5.out
          rw [show decide (L = L) = true by simp, HLE.out] at cli
          have CLI := Lib.hid cli
          clear cli
          go_wp2_with fail
          refine CLI.out.mono ?_
          rintro er w6 ⟨rfl, b6⟩
          have T6 := Lib.hid (T5.out.under b6)
          clear b6
          have LOW := Lib.hid T6.out.so.low
          go_wp2_with fail
          refine (cA.out _).mono ?_
          rintro er wz ⟨rfl, bz⟩
          have GZ := Lib.hid (below_trans LOW.out bz); clear bz
          go_wp2_with fail
          go_ret
          exact ⟨rfl, GZ.out⟩
        )

end Go.Proofs.Ytkaikekibmgmmaa

/- Ledgers: the deeds one by one; the statement's walk: sums. -/
import Derived.Test.YtkaikekibmgmmaaLgD
namespace Go.Proofs.Ytkaikekibmgmmaa
open Go.RowKit
set_option linter.unusedVariables false

namespace Lg
def do1 (ns : List Nd) (L : List V3) (d : De) : List V3 := if d.gv = true then (give ns L d.t d.v).1 else (take ns L d.t d.v).1
def run (ns : List Nd) (ds : List De) (i : Nat) : List V3 := (ds.take i).foldl (do1 ns) (List.replicate ns.length Qt.z3)
theorem run_succ {ns : List Nd} {ds : List De} {i : Nat} {d : De} (h : ds[i]? = some d) : run ns ds (i + 1) = do1 ns (run ns ds i) d := by
  rw [run, run, List.take_add_one, h, Option.toList_some, List.foldl_append]
  rfl
theorem run_ok (ns : List Nd) (ds : List De) : ∀ i : Nat, i ≤ 200 → Ok ns (run ns ds i) ((i : Int) * 1048576)
  | 0, _ => by simpa [run] using ok_zero ns
  | i + 1, h => by
    have ih := run_ok ns ds i (by omega)
    cases q : ds[i]? with
    | none =>
      have e : run ns ds (i + 1) = run ns ds i := by rw [run, run, List.take_add_one, q]; simp
      rw [e]
      exact ok_more ih (by omega)
    | some d =>
      rw [run_succ q, do1]
      split
      · exact ok_more (give_ok d.t d.v ih (by omega)) (by omega)
      · have := take_ok d.t d.v ih (by omega)
        rw [show ((i + 1 : Nat) : Int) * 1048576 = (i : Int) * 1048576 + 1048576 by omega]
        exact this
theorem run_len (ns : List Nd) (ds : List De) (i : Nat) (h : i ≤ 200) : (run ns ds i).length = ns.length := (run_ok ns ds i h).1
end Lg

/-- What stands in every world of the walk. -/
structure LsSo (C : LgC) (w : World) (D : Nat) (F : Nat → Prop) (j : Nat) (c : Cmd) (C4 : Array Value) (L : List V3) (wr : World) : Prop where
  led : C.At D wr F j c L
  box : Row wr w.heap.size C4 25
  low : Below w.heap.size w wr
theorem LsSo.under {C : LgC} {w : World} {D : Nat} {F : Nat → Prop} {j : Nat} {c : Cmd} {C4 : Array Value} {L : List V3} {wr wz : World} (h : LsSo C w D F j c C4 L wr) (hF : ∀ k, F k → k < wr.heap.size ∨ True) (g : Below wr.heap.size wr wz) : LsSo C w D F j c C4 L wz :=
  ⟨C.mono h.led (G := fun _ => False) (Kp.of_below g (fun k hk => hk.1)) (fun k hk => hk.elim) (fun k hk => .inl hk), h.box.under g, below_trans h.low g⟩
theorem LsSo.step {C : LgC} {w : World} {D : Nat} {F : Nat → Prop} {j : Nat} {c : Cmd} {C4 : Array Value} {L L' : List V3} {wr wz : World} (h : LsSo C w D F j c C4 L wr) (hF : ∀ k, k < w.heap.size + 1 → F k) (a : C.At D wz F j c L') (g : Kp F wr wz) : LsSo C w D F j c C4 L' wz :=
  ⟨a, (g.block _ (hF _ (by omega))).trans h.box, h.low.trans (g.below (fun k hk => hF k (by omega)))⟩

structure LsTo (C : LgC) (w : World) (D : Nat) (F : Nat → Prop) (j : Nat) (c : Cmd) (C4 : Array Value) (L : List V3) (ao : Option Addr) (cap bb : Nat) (wr : World) : Prop where
  so : LsSo C w D F j c C4 L wr
  sl : Sl V3.c 41 3 wr ao cap bb 0 L
theorem Sl.kp {α : Type} {enc : α → Array Value} {T : TypeId} {k : Nat} {w w' : World} {ao : Option Addr} {cap bb oo : Nat} {l : List α} {F : Nat → Prop} (h : Sl enc T k w ao cap bb oo l) (g : Kp F w w') (hb : F bb) : Sl enc T k w' ao cap bb oo l :=
  ⟨h.small, fun h0 => Nat.lt_of_lt_of_le (h.lt h0) g.size, h.idx, fun i x hi j v hj => (World.cell?_of_block (a := ⟨bb, _, none⟩) (g.block bb hb)).trans (h.at_ i x hi j v hj)⟩

set_option maxHeartbeats 2000000 in
set_option maxRecDepth 8000 in
theorem LedgerSums_walk (C : LgC) {c : Cmd} {vn vh : Value} {ds : List De} {ao : Option Addr} {cap bb oo : Nat} {w : World} (h : CmAt c vn vh w) (hw : c.wide) (hU : Sl De.c 26 5 w ao cap bb oo ds) (hu : ∀ d ∈ ds, d.wide) :
    Calls Try.prog 5 #[.agg (c.f vn vh), .slice ao ds.length cap] w (RetBelow (.bool true) w) := by
  have cA := Lib.hid (lgAwake_any C)
  have ck := fun w2 (g : Below w.heap.size w w2) => rCheck9At (h.kept g)
  have cn := fun (e : Cf.check c = 0) w2 (g : Below w.heap.size w w2) => C.new h hw e g
  have hok := fun i (e : i ≤ 200) => Lg.run_ok c.nodes ds i e
  have hsuc := fun i d (e : ds[i]? = some d) => Lg.run_succ (ns := c.nodes) e
  have h0 : Lg.run c.nodes ds 0 = List.replicate c.nodes.length Qt.z3 := rfl
  have hsum := fun (e : Cf.check c = 0) (i : Nat) (hi : i ≤ 100) (x : Int) (hx : 0 ≤ x ∧ x < c.nodes.length) => Lg.sum_of e (Lg.run_ok c.nodes ds i (by omega)) (by omega) (by omega) hx
  have hlen := fun i (e : i ≤ 200) => Lg.run_len c.nodes ds i e
  have hnl12 := fun (e : Cf.check c = 0) => Qt.check_few e
  obtain ⟨an, cn', nb, no, ah, ch, hb, hbo, rfl, rfl, s1, s2⟩ := h
  have csum := fun (e : Cf.check c = 0) l lo cp lb li x w2 (g : Below w.heap.size w w2) (q : Sl V3.c 41 3 w2 lo cp lb li l) => rSum_any c.nodes l an ah lo cn' nb no c.hosts.length ch cp lb li c.half c.age x w2 (s1.kept g) (Qt.check_few e) q
  obtain ⟨f, hf⟩ : ∃ f : Nat → List V3, Lg.run c.nodes ds = f := ⟨_, rfl⟩
  rw [hf] at h0
  simp only [hf] at hok hsuc hsum hlen
  simp only [← h0] at cn
  have hdw := fun (i : Nat) d (e : ds[i]? = some d) => hu d (List.mem_of_getElem? e)
  have hde := fun (i : Nat) (e : i < ds.length) => (show ∃ d, ds[i]? = some d from ⟨_, List.getElem?_eq_getElem e⟩)
  have hdi := hU.idx
  have d63 := hU.small
  obtain ⟨CK, hCK⟩ : ∃ x, Cf.check c = x := ⟨_, rfl⟩
  rw [hCK] at ck cn hsum hnl12 csum
  obtain ⟨nl, hnlE⟩ : ∃ n, c.nodes.length = n := ⟨_, rfl⟩
  obtain ⟨hl, hhlE⟩ : ∃ n, c.hosts.length = n := ⟨_, rfl⟩
  obtain ⟨dl, hdlE⟩ : ∃ n, ds.length = n := ⟨_, rfl⟩
  obtain ⟨zd, hzd⟩ : ∃ z : Int, (dl : Int) = z := ⟨_, rfl⟩
  obtain ⟨zn, hzn⟩ : ∃ z : Int, (nl : Int) = z := ⟨_, rfl⟩
  rw [hnlE, hhlE] at csum
  rw [hnlE] at hsum hlen hnl12
  rw [hdlE] at hde hdi d63
  simp only [Cmd.f] at ck cn
  rw [hnlE, hhlE] at ck cn
  rw [hdlE]
  simp only [Cmd.f]
  rw [hnlE, hhlE]
  obtain ⟨half, hha⟩ : ∃ x, c.half = x := ⟨_, rfl⟩
  obtain ⟨age, hag⟩ : ∃ x, c.age = x := ⟨_, rfl⟩
  rw [hha, hag] at ck cn csum
  rw [hha, hag]
  clear hha hag hnlE hhlE hdlE hw hu hCK hf h0 s1 s2
  have CK1 := Lib.hid ck; have CN := Lib.hid cn; have HOK := Lib.hid hok; have HSUC := Lib.hid hsuc; have HSUM := Lib.hid hsum; have HLEN := Lib.hid hlen; have HNL := Lib.hid hnl12; have CSUM := Lib.hid csum; have HDW := Lib.hid hdw; have HDE := Lib.hid hde; have HDI := Lib.hid hdi; have HU := Lib.hid hU
  clear ck cn hok hsuc hsum hlen hnl12 csum hdw hde hdi hU
  have box0 := Row.new w #[.slice an nl cn', .slice ah hl ch, .int .i64 half, .int .i64 age] 25
  have g0 := Lib.hid (show Below w.heap.size w (w.alloc (.cells #[.slice an nl cn', .slice ah hl ch, .int .i64 half, .int .i64 age] 25)) from (Below.refl _ _).alloc (Nat.le_refl _) _)
  have z0 : (w.alloc (.cells #[.slice an nl cn', .slice ah hl ch, .int .i64 half, .int .i64 age] 25)).heap.size = w.heap.size + 1 := World.size_alloc ..
  go_enter Try.func5, Try.ntmps5
  go_upto_region 1 with fail
  obtain ⟨w0, hw0⟩ : ∃ v, w.alloc (.cells #[.slice an nl cn', .slice ah hl ch, .int .i64 half, .int .i64 age] 25) = v := ⟨_, rfl⟩
  rw [hw0] at box0 g0 z0 ⊢
  clear hw0
  have B0 := Lib.hid box0; have Z0 := Lib.hid z0
  clear box0 z0
  have d0 : w0.cell? ⟨w.heap.size, 0, none⟩ = some (.slice an nl cn') := B0.out.at_ 0
  have d1 : w0.cell? ⟨w.heap.size, 1, none⟩ = some (.slice ah hl ch) := B0.out.at_ 1
  have d2 : w0.cell? ⟨w.heap.size, 2, none⟩ = some (.int .i64 half) := B0.out.at_ 2
  have d3 : w0.cell? ⟨w.heap.size, 3, none⟩ = some (.int .i64 age) := B0.out.at_ 3
  go_wp2_with fail
  refine (CK1.out _ g0.out).mono ?_
  rintro er w1 ⟨rfl, b1⟩
  have G1 := Lib.hid (below_trans g0.out b1); have B1 := Lib.hid (B0.out.under b1); have Z1 := Lib.hid (show w.heap.size + 1 ≤ w1.heap.size by have := b1.size; have := Z0.out; omega)
  clear b1 d0 d1 d2 d3
  obtain hc0 | hc0 := (Decidable.em (CK = 0)).symm
  · go_wp2_with fail
    refine (cA.out _).mono ?_
    rintro er wz ⟨rfl, bz⟩
    have GZ := Lib.hid (below_trans G1.out bz); clear bz
    go_wp2_with fail
    go_ret
    exact ⟨rfl, GZ.out⟩
  subst hc0
  have d0 : w1.cell? ⟨w.heap.size, 0, none⟩ = some (.slice an nl cn') := B1.out.at_ 0
  have d1 : w1.cell? ⟨w.heap.size, 1, none⟩ = some (.slice ah hl ch) := B1.out.at_ 1
  have d2 : w1.cell? ⟨w.heap.size, 2, none⟩ = some (.int .i64 half) := B1.out.at_ 2
  have d3 : w1.cell? ⟨w.heap.size, 3, none⟩ = some (.int .i64 age) := B1.out.at_ 3
  go_wp2_with fail
  refine (CN.out (by trivial) _ G1.out).mono ?_
  rintro er w2 ⟨j, rfl, a2, b2⟩
  have hF : Hid (∀ k, k < w.heap.size + 1 → k < w1.heap.size) := Lib.hid (fun k hk => by have := Z1.out; omega)
  have S2 := Lib.hid (show LsSo C w w.heap.size (fun k => k < w1.heap.size) j c #[.slice an nl cn', .slice ah hl ch, .int .i64 half, .int .i64 age] (f 0) w2 from ⟨a2, B1.out.under b2, below_trans G1.out b2⟩)
  clear a2 b2 d0 d1 d2 d3
  go_wp2_with fail
  go_loopw [6] (fun i wr => ∃ (k : Int), i = .int .i64 k ∧ 0 ≤ k ∧ k ≤ zd ∧ k ≤ 100 ∧ Hid (LsSo C w w.heap.size (fun k => k < w1.heap.size) j c #[.slice an nl cn', .slice ah hl ch, .int .i64 half, .int .i64 age] (f k.toNat) wr)) (fun i _ => (zd - intOf i).toNat)
  case atStart => exact ⟨0, rfl, by omega, by omega, by omega, S2.out⟩
  case round =>
    obtain ⟨k, rfl, hk0, hkz, hk1, hd⟩ := hrel
    by_cases hlt : k < zd ∧ k < 100
    · obtain ⟨hlt, hl1⟩ := hlt
      obtain ⟨d, hx⟩ := HDE.out k.toNat (by omega)
      have hi := HDI.out k.toNat (by omega)
      rw [show ((k.toNat : Nat) : Int) = k by omega] at hi
      have hdw := HDW.out k.toNat d hx
      have hsuc := HSUC.out k.toNat d hx
      have hok := HOK.out k.toNat (by omega)
      rw [show ((k.toNat : Nat) : Int) = k by omega] at hok
      obtain ⟨od, hod⟩ : ∃ n, oo + k.toNat * 5 = n := ⟨_, rfl⟩
      rw [hod] at hi
      have hrg := fun w9 (g : LsSo C w w.heap.size (fun k => k < w1.heap.size) j c #[.slice an nl cn', .slice ah hl ch, .int .i64 half, .int .i64 age] (f k.toNat) w9) => (show w9.rangeAt bb od d.c.toList from hod ▸ (HU.out.kept g.low).at_ k.toNat d hx)
      have ctk := fun w9 (g : LsSo C w w.heap.size (fun k => k < w1.heap.size) j c #[.slice an nl cn', .slice ah hl ch, .int .i64 half, .int .i64 age] (f k.toNat) w9) => C.take g.led (k * 1048576) d.t d.v hok (by omega) hdw.1 hdw.2
      have cgv := fun w9 (g : LsSo C w w.heap.size (fun k => k < w1.heap.size) j c #[.slice an nl cn', .slice ah hl ch, .int .i64 half, .int .i64 age] (f k.toNat) w9) => C.give g.led (k * 1048576) d.t d.v hok (by omega) hdw.1 hdw.2
      rw [Lg.do1] at hsuc
      obtain ⟨gv, t, v1, v2, v3⟩ := d
      simp only [De.c, V3.c] at hrg ctk cgv hsuc
      have c1 := fun w9 g => (show w9.cell? ⟨bb, od + 1, none⟩ = some (.int .i64 t) from hrg w9 g 1 _ rfl)
      have c0 := (show wr.cell? ⟨bb, od, none⟩ = some (.bool gv) from hrg wr hd.out 0 _ rfl)
      have cv := fun w9 g => (show w9.rangeAt bb (od + 2) [.int .i64 v1, .int .i64 v2, .int .i64 v3] from range_sub (hrg w9 g) 2 _ (by
        intro i x hx
        match i with
        | 0 => exact hx
        | 1 => exact hx
        | 2 => exact hx
        | i + 3 => simp at hx))
      have HI := Lib.hid hi; have HSUCC := Lib.hid hsuc; have CTK := Lib.hid ctk; have CGV := Lib.hid cgv; have C1 := Lib.hid c1; have CV := Lib.hid cv; have HD := Lib.hid hd.out
      have HDR := Lib.hid (hd.out.under (fun k _ => .inr trivial) (below_drewN (Below.refl _ _) 1))
      clear hrg ctk cgv hsuc c1 cv hok hdw hx hod hd
      cases gv
      · have hs := HSUCC.out
        rw [if_neg (by decide)] at hs
        have HS := Lib.hid hs
        clear hs HSUCC
        go_wp2_with fail
        refine region_quiet_tail 11 (fun w9 => LsSo C w w.heap.size (fun k => k < w1.heap.size) j c #[.slice an nl cn', .slice ah hl ch, .int .i64 half, .int .i64 age] (f k.toNat) w9) (by kernel_rfl) (by kernel_rfl) HDR.out ?_
        simp only [List.take_succ_cons, List.take_zero, List.drop_succ_cons, List.drop_zero]
        repeat (first
          | (go_big_quiet_skip)
          | (with_reducible refine quiet_index 26 _ _ _ _ _ (fun w0 => HI.out w0) rfl rfl rfl ?_ ?_; (focus kernel_rfl); simp only [Act.put, List.setIfInBounds_toArray, List.set_cons_zero, List.set_cons_succ])
          | (refine quiet_cell _ _ 3 _ _ C1.out rfl rfl ?_ Try.underlying3 rfl ?_; (focus kernel_rfl); simp only [Act.put, List.setIfInBounds_toArray, List.set_cons_zero, List.set_cons_succ])
          | (refine quiet_mid bb (od + 2) _ 35 _ _ CV.out rfl rfl ?_ Try.underlying35 rfl ?_ ?_; (focus kernel_rfl); (focus kernel_rfl); simp only [Act.put, List.setIfInBounds_toArray, List.set_cons_zero, List.set_cons_succ])
          | (go_big_quiet_step ((intro g2; (with_reducible rfl)))))
        refine wpQuiet_nil ?_
        intro w9 g9
        have HG9 := Lib.hid g9
        clear g9 HDR C1 CV HI
        go_wp2_with fail
        refine (CTK.out _ HG9.out).mono ?_
        rintro er w10 ⟨rfl, a10, b10⟩
        have FIN := Lib.hid (HG9.out.step hF.out (HS.out.symm ▸ a10) b10)
        clear a10 b10
        go_wp2_with fail
        go_roundw
        case rel => exact ⟨k + 1, rfl, by omega, by omega, by omega, by rw [show (k + 1).toNat = k.toNat + 1 by omega]; exact FIN.out⟩
        case measure => simp [intOf]; omega
      · have hs := HSUCC.out
        rw [if_pos rfl] at hs
        have HS := Lib.hid hs
        clear hs HSUCC
        go_wp2_with fail
        refine region_quiet_tail 11 (fun w9 => LsSo C w w.heap.size (fun k => k < w1.heap.size) j c #[.slice an nl cn', .slice ah hl ch, .int .i64 half, .int .i64 age] (f k.toNat) w9) (by kernel_rfl) (by kernel_rfl) HDR.out ?_
        simp only [List.take_succ_cons, List.take_zero, List.drop_succ_cons, List.drop_zero]
        repeat (first
          | (go_big_quiet_skip)
          | (with_reducible refine quiet_index 26 _ _ _ _ _ (fun w0 => HI.out w0) rfl rfl rfl ?_ ?_; (focus kernel_rfl); simp only [Act.put, List.setIfInBounds_toArray, List.set_cons_zero, List.set_cons_succ])
          | (refine quiet_cell _ _ 3 _ _ C1.out rfl rfl ?_ Try.underlying3 rfl ?_; (focus kernel_rfl); simp only [Act.put, List.setIfInBounds_toArray, List.set_cons_zero, List.set_cons_succ])
          | (refine quiet_mid bb (od + 2) _ 35 _ _ CV.out rfl rfl ?_ Try.underlying35 rfl ?_ ?_; (focus kernel_rfl); (focus kernel_rfl); simp only [Act.put, List.setIfInBounds_toArray, List.set_cons_zero, List.set_cons_succ])
          | (go_big_quiet_step ((intro g2; (with_reducible rfl)))))
        refine wpQuiet_nil ?_
        intro w9 g9
        have HG9 := Lib.hid g9
        clear g9 HDR C1 CV HI
        go_wp2_with fail
        refine (CGV.out _ HG9.out).mono ?_
        rintro er w10 ⟨rfl, a10, b10⟩
        have FIN := Lib.hid (HG9.out.step hF.out (HS.out.symm ▸ a10) b10)
        clear a10 b10
        go_wp2_with fail
        go_roundw
        case rel => exact ⟨k + 1, rfl, by omega, by omega, by omega, by rw [show (k + 1).toNat = k.toNat + 1 by omega]; exact FIN.out⟩
        case measure => simp [intOf]; omega
    · have hok := HOK.out k.toNat (by omega)
      have hlen := HLEN.out k.toNat (by omega)
      have hsm := HSUM.out (by trivial) k.toNat (by omega)
      have h12 := HNL.out (by trivial)
      obtain ⟨M, hM⟩ : ∃ m : Int, ((k.toNat : Nat) : Int) * 1048576 = m := ⟨_, rfl⟩
      have hM1 : M ≤ 1048576000 := by omega
      obtain ⟨L, hL⟩ : ∃ l, f k.toNat = l := ⟨_, rfl⟩
      rw [hM, hL] at hok
      rw [hL] at hlen hd
      simp only [hL] at hsm
      have cal := C.all hd.out.led M hok hM1
      rw [hlen] at cal
      have HOKL := Lib.hid hok; have HSM := Lib.hid hsm; have HLE := Lib.hid hlen; have CAL := Lib.hid cal; have HD := Lib.hid hd.out
      clear hok hsm hlen cal hM hL hd HOK HSUC HLEN HDW HDE HSUM HDI HU S2
      rcases (show k < zd ∨ zd ≤ k by omega) with h1 | h1
      all_goals (
        go_wp2_with fail
        refine CAL.out.mono ?_
        rintro er w3 ⟨ao2, cap2, b2, rfl, sl, hb2, a3, b3⟩
        have T3 := Lib.hid (show LsTo C w w.heap.size (fun k => (fun k => k < w1.heap.size) k ∨ k = b2) j c #[.slice an nl cn', .slice ah hl ch, .int .i64 half, .int .i64 age] L ao2 cap2 b2 w3 from ⟨⟨a3, (b3.block _ (hF.out _ (by omega))).trans HD.out.box, HD.out.low.trans (b3.below (fun k hk => hF.out k (by omega)))⟩, sl⟩)
        have hF2 : Hid (∀ k, k < w.heap.size + 1 → (fun k => (fun k => k < w1.heap.size) k ∨ k = b2) k) := Lib.hid (fun k hk => .inl (hF.out k hk))
        clear sl hb2 a3 b3 CAL HD
        go_wp2_with fail
        go_loopw [8] (fun i wq => ∃ (m : Int), i = .int .i64 m ∧ 0 ≤ m ∧ m ≤ zn ∧ Hid (LsTo C w w.heap.size (fun k => (fun k => k < w1.heap.size) k ∨ k = b2) j c #[.slice an nl cn', .slice ah hl ch, .int .i64 half, .int .i64 age] L ao2 cap2 b2 wq)) (fun i _ => (zn - intOf i).toNat)
        case atStart => exact ⟨0, rfl, by omega, by omega, T3.out⟩
        case round =>
          obtain ⟨m, rfl, hm0, hmz, hd⟩ := hrel
          have d0 : wr.cell? ⟨w.heap.size, 0, none⟩ = some (.slice an nl cn' ) := hd.out.1.box.at_ 0
          by_cases hlt2 : m < zn
          · have hm64 : In64 m := by unfold In64; omega
            obtain ⟨hs1, hs2⟩ := HSM.out m (by omega)
            obtain ⟨y, hy⟩ : ∃ y, Qt.ath L m = y := ⟨_, rfl⟩
            rw [hy] at hs1 hs2
            have hus := fun w9 (g : LsTo C w w.heap.size (fun k => (fun k => k < w1.heap.size) k ∨ k = b2) j c #[.slice an nl cn', .slice ah hl ch, .int .i64 half, .int .i64 age] L ao2 cap2 b2 w9) => (C.used g.1.led M m HOKL.out hM1 hm64).mono (fun e w'' h => (show e = .returned (.agg y.c) ∧ LsTo C w w.heap.size (fun k => (fun k => k < w1.heap.size) k ∨ k = b2) j c #[.slice an nl cn', .slice ah hl ch, .int .i64 half, .int .i64 age] L ao2 cap2 b2 w'' from ⟨hy ▸ h.1, ⟨g.1.step hF2.out h.2.1 h.2.2, g.2.kp h.2.2 (.inr rfl)⟩⟩))
            have hsu := fun w9 (g : LsTo C w w.heap.size (fun k => (fun k => k < w1.heap.size) k ∨ k = b2) j c #[.slice an nl cn', .slice ah hl ch, .int .i64 half, .int .i64 age] L ao2 cap2 b2 w9) => (CSUM.out (by trivial) L ao2 cap2 b2 0 m w9 g.1.low g.2).mono (fun e w'' h => (show e = .returned (.agg y.c) ∧ LsTo C w w.heap.size (fun k => (fun k => k < w1.heap.size) k ∨ k = b2) j c #[.slice an nl cn', .slice ah hl ch, .int .i64 half, .int .i64 age] L ao2 cap2 b2 w'' from ⟨hs1 ▸ h.1, ⟨g.1.under (fun _ _ => .inr trivial) h.2, g.2.kept h.2⟩⟩))
            have hfi := fun w9 (g : LsTo C w w.heap.size (fun k => (fun k => k < w1.heap.size) k ∨ k = b2) j c #[.slice an nl cn', .slice ah hl ch, .int .i64 half, .int .i64 age] L ao2 cap2 b2 w9) => (rFits3 ⟨0, 0, 0⟩ y w9).mono (fun e w'' h => (show e = .returned (.bool true) ∧ LsTo C w w.heap.size (fun k => (fun k => k < w1.heap.size) k ∨ k = b2) j c #[.slice an nl cn', .slice ah hl ch, .int .i64 half, .int .i64 age] L ao2 cap2 b2 w'' from ⟨by rw [← hs2]; exact h.1, ⟨g.1.under (fun _ _ => .inr trivial) h.2, g.2.kept h.2⟩⟩))
            have hne := fun w9 => vec_neq3 w9 y y
            have hrr := fun w9 (g : LsTo C w w.heap.size (fun k => (fun k => k < w1.heap.size) k ∨ k = b2) j c #[.slice an nl cn', .slice ah hl ch, .int .i64 half, .int .i64 age] L ao2 cap2 b2 w9) => (show ∃ t fr, w9.heap[w.heap.size]? = some (.cells #[.slice an nl cn', .slice ah hl ch, .int .i64 half, .int .i64 age] t fr) from ⟨_, _, g.1.box⟩)
            rw [show (!decide (y = y)) = false by simp] at hne
            rw [HLE.out] at hsu
            simp only [V3.c] at hus hsu
            have HUS := Lib.hid hus; have HSU := Lib.hid hsu; have HFI := Lib.hid hfi; have HNE := Lib.hid hne; have HRR := Lib.hid hrr
            have HDR := Lib.hid (show LsTo C w w.heap.size (fun k => (fun k => k < w1.heap.size) k ∨ k = b2) j c #[.slice an nl cn', .slice ah hl ch, .int .i64 half, .int .i64 age] L ao2 cap2 b2 (wr.drewN 1) from ⟨hd.out.1.under (fun _ _ => .inr trivial) (below_drewN (Below.refl _ _) 1), hd.out.2.kept (below_drewN (Below.refl _ _) 1)⟩)
            clear hus hsu hfi hne hrr hs1 hs2 hy hd
            go_wp2_with fail
            refine region_quiet (fun w9 => LsTo C w w.heap.size (fun k => (fun k => k < w1.heap.size) k ∨ k = b2) j c #[.slice an nl cn', .slice ah hl ch, .int .i64 half, .int .i64 age] L ao2 cap2 b2 w9) (by kernel_rfl) (by kernel_rfl) HDR.out ?_
            repeat (first
              | (go_big_quiet_skip)
              | (refine quiet_row _ _ 25 _ _ HRR.out rfl rfl ?_ Try.underlying25 rfl ?_ ?_; (focus kernel_rfl); (focus kernel_rfl); simp only [Act.put, List.setIfInBounds_toArray, List.set_cons_zero, List.set_cons_succ])
              | (refine quiet_bin .neq 35 _ _ _ _ _ _ rfl rfl rfl HNE.out (fun w => vec_guard w _ _ _ _ _) ?_ ?_; (focus kernel_rfl); simp only [Act.put, List.setIfInBounds_toArray, List.set_cons_zero, List.set_cons_succ])
              | (go_big_quiet_step ((intro g2; first
                | (with_reducible rfl)
                | (exact HUS.out _ g2)
                | (exact HSU.out _ g2)
                | (exact HFI.out _ g2)))))
            refine wpQuiet_nil ?_
            intro w9 g9
            have HG := Lib.hid g9
            clear g9 HUS HSU HFI HNE HRR HDR d0
            go_wp2_with fail
            go_roundw
            case rel => exact ⟨m + 1, rfl, by omega, by omega, HG.out⟩
            case measure => simp [intOf]; omega
          · have LW := Lib.hid hd.out.1.low
            clear hd
            go_wp2_with fail
            refine (cA.out _).mono ?_
            rintro er wz ⟨rfl, bz⟩
            have GZ := Lib.hid (below_trans LW.out bz); clear bz
            go_wp2_with fail
            go_ret
            exact ⟨rfl, GZ.out⟩)

end Go.Proofs.Ytkaikekibmgmmaa

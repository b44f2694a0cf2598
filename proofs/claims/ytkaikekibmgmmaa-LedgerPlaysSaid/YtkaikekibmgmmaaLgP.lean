/- Ledgers: the statement's walk: plays. -/
import Derived.Test.YtkaikekibmgmmaaLgE
import Derived.Test.YtkaikekibmgmmaaLgG
namespace Go.Proofs.Ytkaikekibmgmmaa
open Go.RowKit
set_option linter.unusedVariables false

/-- Both ledgers beside each other. -/
structure LpSo (C : LgC) (w : World) (F : Nat → Prop) (j j2 B2 : Nat) (c : Cmd) (vn vh : Value) (L : List V3) (wr : World) : Prop where
  led : C.At w.heap.size wr F j c L
  ref : LedAt wr j2 B2 c vn vh L
  low : Below w.heap.size w wr
structure LpF (w : World) (F : Nat → Prop) (j2 B2 : Nat) : Prop where
  low : ∀ k, k < w.heap.size → F k
  one : F j2
  two : F B2
  above : w.heap.size ≤ B2

theorem LedAt.kp {w w' : World} {j B : Nat} {c : Cmd} {vn vh : Value} {L : List V3} {F : Nat → Prop} (h : LedAt w j B c vn vh L) (g : Kp F w w') (hj : F j) (hB : F B) : LedAt w' j B c vn vh L := ⟨(g.block _ hj).trans h.box, (g.block _ hB).trans h.rows, h.ne, h.len⟩
theorem LpSo.both {C : LgC} {w : World} {F : Nat → Prop} {j j2 B2 : Nat} {c : Cmd} {vn vh : Value} {L L' : List V3} {wr wy wz : World} (h : LpSo C w F j j2 B2 c vn vh L wr) (f : LpF w F j2 B2) (a : C.At w.heap.size wy F j c L') (g : Kp F wr wy) (r : LedAt wz j2 B2 c vn vh L') (b : But B2 wy wz) : LpSo C w F j j2 B2 c vn vh L' wz :=
  ⟨C.mono a (G := fun k => k = B2) ⟨b.os, b.tape, b.output, b.size, fun k hk => b.block k hk.1 (fun e => hk.2 ⟨e, by have := f.above; omega⟩)⟩ (fun k hk => hk ▸ f.two) (fun k hk => .inl hk), r,
    (h.low.trans (g.below (fun k hk => f.low k hk))).trans (b.below f.above (h.low.trans (g.below (fun k hk => f.low k hk))).size)⟩

set_option maxHeartbeats 2000000 in
set_option maxRecDepth 8000 in
theorem LedgerPlays_walk (C : LgC) {c : Cmd} {vn vh : Value} {ds : List De} {ao : Option Addr} {cap bb oo : Nat} {w : World} (h : CmAt c vn vh w) (hw : c.wide) (hU : Sl De.c 26 5 w ao cap bb oo ds) (hu : ∀ d ∈ ds, d.wide) :
    Calls Try.prog 3 #[.agg (c.f vn vh), .slice ao ds.length cap] w (RetBelow (.bool true) w) := by
  have cA := Lib.hid (lgAwake_any C)
  have ck := fun w2 (g : Below w.heap.size w w2) => rCheck9At (h.kept g)
  have cn := fun (e : Cf.check c = 0) w2 (g : Below w.heap.size w w2) => C.new h hw e g
  have cx := fun (e : Cf.check c = 0) w2 (g : Below w.heap.size w w2) => rNew12 (h.kept g) (Qt.check_few e)
  have hat := fun w2 (g : Below w.heap.size w w2) => h.kept g
  have hok := fun i (e : i ≤ 200) => Lg.run_ok c.nodes ds i e
  have hsuc := fun i d (e : ds[i]? = some d) => Lg.run_succ (ns := c.nodes) e
  have h0 : Lg.run c.nodes ds 0 = List.replicate c.nodes.length Qt.z3 := rfl
  have hlen := fun i (e : i ≤ 200) => Lg.run_len c.nodes ds i e
  have hnl12 := fun (e : Cf.check c = 0) => Qt.check_few e
  obtain ⟨an, nl0, cn', ah, hl0, ch, rfl, rfl⟩ := h.slices
  obtain ⟨f, hf⟩ : ∃ f : Nat → List V3, Lg.run c.nodes ds = f := ⟨_, rfl⟩
  rw [hf] at h0
  simp only [hf] at hok hsuc hlen
  simp only [← h0] at cn cx
  have hdw := fun (i : Nat) d (e : ds[i]? = some d) => hu d (List.mem_of_getElem? e)
  have hde := fun (i : Nat) (e : i < ds.length) => (show ∃ d, ds[i]? = some d from ⟨_, List.getElem?_eq_getElem e⟩)
  have hdi := hU.idx
  have d63 := hU.small
  obtain ⟨CK, hCK⟩ : ∃ x, Cf.check c = x := ⟨_, rfl⟩
  rw [hCK] at ck cn cx hnl12
  obtain ⟨dl, hdlE⟩ : ∃ n, ds.length = n := ⟨_, rfl⟩
  obtain ⟨zd, hzd⟩ : ∃ z : Int, (dl : Int) = z := ⟨_, rfl⟩
  rw [hdlE] at hde hdi d63
  rw [hdlE]
  simp only [Cmd.f] at ck cn cx
  simp only [Cmd.f]
  obtain ⟨half, hha⟩ : ∃ x, c.half = x := ⟨_, rfl⟩
  obtain ⟨age, hag⟩ : ∃ x, c.age = x := ⟨_, rfl⟩
  rw [hha, hag] at ck cn cx
  rw [hha, hag]
  clear hdlE hw hu hCK hf h0 h
  have CK1 := Lib.hid ck; have CN := Lib.hid cn; have CX := Lib.hid cx; have HOK := Lib.hid hok; have HSUC := Lib.hid hsuc; have HLEN := Lib.hid hlen; have HDW := Lib.hid hdw; have HDE := Lib.hid hde; have HDI := Lib.hid hdi; have HU := Lib.hid hU; have HATT := Lib.hid hat; have HHA := Lib.hid hha; have HAG := Lib.hid hag; have HNLC := Lib.hid hnl12
  clear ck cn cx hok hsuc hlen hnl12 hdw hde hdi hU hat hha hag
  have box0 := Row.new w #[.slice an nl0 cn', .slice ah hl0 ch, .int .i64 half, .int .i64 age] 25
  have g0 := Lib.hid (show Below w.heap.size w (w.alloc (.cells #[.slice an nl0 cn', .slice ah hl0 ch, .int .i64 half, .int .i64 age] 25)) from (Below.refl _ _).alloc (Nat.le_refl _) _)
  have z0 : (w.alloc (.cells #[.slice an nl0 cn', .slice ah hl0 ch, .int .i64 half, .int .i64 age] 25)).heap.size = w.heap.size + 1 := World.size_alloc ..
  go_enter Try.func3, Try.ntmps3
  go_upto_region 1 with fail
  obtain ⟨w0, hw0⟩ : ∃ v, w.alloc (.cells #[.slice an nl0 cn', .slice ah hl0 ch, .int .i64 half, .int .i64 age] 25) = v := ⟨_, rfl⟩
  rw [hw0] at box0 g0 z0 ⊢
  clear hw0
  have B0 := Lib.hid box0; have Z0 := Lib.hid z0
  clear box0 z0
  have d0 : w0.cell? ⟨w.heap.size, 0, none⟩ = some (.slice an nl0 cn') := B0.out.at_ 0
  have d1 : w0.cell? ⟨w.heap.size, 1, none⟩ = some (.slice ah hl0 ch) := B0.out.at_ 1
  have d2 : w0.cell? ⟨w.heap.size, 2, none⟩ = some (.int .i64 half) := B0.out.at_ 2
  have d3 : w0.cell? ⟨w.heap.size, 3, none⟩ = some (.int .i64 age) := B0.out.at_ 3
  go_wp2_with fail
  refine (CK1.out _ g0.out).mono ?_
  rintro er w1 ⟨rfl, b1⟩
  have G1 := Lib.hid (below_trans g0.out b1); have B1 := Lib.hid (B0.out.under b1); have Z1 := Lib.hid (show w.heap.size + 1 ≤ w1.heap.size by have := b1.size; have := Z0.out; omega)
  clear b1 d0 d1 d2 d3
  obtain hc0 | hc0 := (Decidable.em (CK = 0)).symm
  · go_wp2_with fail
    refine (cA.out _).mono ?_
    rintro er wz ⟨rfl, bz⟩
    have GZ := Lib.hid (below_trans G1.out bz); clear bz
    go_wp2_with fail
    go_ret
    exact ⟨rfl, GZ.out⟩
  subst hc0
  have d0 : w1.cell? ⟨w.heap.size, 0, none⟩ = some (.slice an nl0 cn') := B1.out.at_ 0
  have d1 : w1.cell? ⟨w.heap.size, 1, none⟩ = some (.slice ah hl0 ch) := B1.out.at_ 1
  have d2 : w1.cell? ⟨w.heap.size, 2, none⟩ = some (.int .i64 half) := B1.out.at_ 2
  have d3 : w1.cell? ⟨w.heap.size, 3, none⟩ = some (.int .i64 age) := B1.out.at_ 3
  go_upto_region 3 with fail
  have BD := Lib.hid (B1.out.under (below_drewN (Below.refl w1.heap.size w1) 1))
  have GD := Lib.hid (below_drewN G1.out 1)
  go_region_held3 (fun w' => w'.cell? ⟨w.heap.size, 0, none⟩ = some (.slice an nl0 cn') ∧ w'.cell? ⟨w.heap.size, 1, none⟩ = some (.slice ah hl0 ch) ∧ w'.cell? ⟨w.heap.size, 2, none⟩ = some (.int .i64 half) ∧ w'.cell? ⟨w.heap.size, 3, none⟩ = some (.int .i64 age)) (first | assumption | exact ⟨d0, d1, d2, d3⟩ | go_keep) (first | (go_at_call 10; refine (CN.out (by trivial) _ GD.out).mono ?_; rintro er w2 ⟨j, rfl, a2, b2⟩; have y2 := And.intro ((BD.out.under b2).at_ 0) (And.intro ((BD.out.under b2).at_ 1) (And.intro ((BD.out.under b2).at_ 2) ((BD.out.under b2).at_ 3))); have A2 := Lib.hid (And.intro a2 b2); clear a2 b2) | (go_at_call 11; refine (CX.out (by trivial) _ (below_trans GD.out A2.out.2)).mono ?_; rintro er w3 ⟨j2, B2, rfl, led, b3, hj2, hB2⟩; have y3 := And.intro (((BD.out.under A2.out.2).under b3).at_ 0) (And.intro (((BD.out.under A2.out.2).under b3).at_ 1) (And.intro (((BD.out.under A2.out.2).under b3).at_ 2) (((BD.out.under A2.out.2).under b3).at_ 3))); have A3 := Lib.hid (And.intro led (And.intro b3 (And.intro hj2 hB2))); clear led b3 hj2 hB2))
  have zd1 : w1.drew.heap.size = w1.heap.size := rfl
  have zb : w1.heap.size ≤ w2.heap.size := A2.out.2.size
  have fl : LpF w (fun k => k < w1.drew.heap.size ∨ (w2.heap.size ≤ k ∧ k < w3.heap.size)) j2 B2 := ⟨fun k hk => .inl (by have := Z1.out; omega), .inr ⟨A3.out.2.2.1, A3.out.1.box.lt⟩, .inr ⟨A3.out.2.2.2, A3.out.1.rows.lt⟩, by have := Z1.out; have := A3.out.2.2.2; omega⟩
  have S3 := Lib.hid (show LpSo C w (fun k => k < w1.drew.heap.size ∨ (w2.heap.size ≤ k ∧ k < w3.heap.size)) j j2 B2 c (.slice an nl0 cn') (.slice ah hl0 ch) (f 0) w3 from
    ⟨C.mono A2.out.1 (G := fun _ => False) (Kp.of_below A3.out.2.1 (fun k hk => hk.1)) (fun k hk => hk.elim) (fun k hk => hk.elim (fun q => .inl q) (fun q => .inr q)), A3.out.1, below_trans (below_trans GD.out A2.out.2) A3.out.2.1⟩)
  have FL := Lib.hid fl
  clear fl A2 A3 y2 y3 BD GD d0 d1 d2 d3 zb zd1
  obtain ⟨F, hF⟩ : ∃ F : Nat → Prop, (fun k => k < w1.drew.heap.size ∨ (w2.heap.size ≤ k ∧ k < w3.heap.size)) = F := ⟨_, rfl⟩
  rw [hF] at FL S3
  clear hF
  go_wp2_with fail
  go_loopw [7] (fun i wr => ∃ (k : Int), i = .int .i64 k ∧ 0 ≤ k ∧ k ≤ zd ∧ k ≤ 200 ∧ Hid (LpSo C w F j j2 B2 c (.slice an nl0 cn') (.slice ah hl0 ch) (f k.toNat) wr)) (fun i _ => (zd - intOf i).toNat)
  case atStart => exact ⟨0, rfl, by omega, by omega, by omega, S3.out⟩
  case round =>
    obtain ⟨k, rfl, hk0, hkz, hk1, hd⟩ := hrel
    by_cases hlt : k < zd ∧ k < 200
    · obtain ⟨hlt, hl1⟩ := hlt
      obtain ⟨d, hx⟩ := HDE.out k.toNat (by omega)
      have hi := HDI.out k.toNat (by omega)
      rw [show ((k.toNat : Nat) : Int) = k by omega] at hi
      have hdw := HDW.out k.toNat d hx
      have hsuc := HSUC.out k.toNat d hx
      have hok := HOK.out k.toNat (by omega)
      rw [show ((k.toNat : Nat) : Int) = k by omega] at hok
      obtain ⟨od, hod⟩ : ∃ n, oo + k.toNat * 5 = n := ⟨_, rfl⟩
      rw [hod] at hi
      have hrg := fun w9 (g : Below w.heap.size w w9) => (show w9.rangeAt bb od d.c.toList from hod ▸ (HU.out.kept g).at_ k.toNat d hx)
      rw [Lg.do1] at hsuc
      obtain ⟨gv, t, v1, v2, v3⟩ := d
      simp only [De.c] at hrg hsuc
      have c0 := (show wr.cell? ⟨bb, od, none⟩ = some (.bool gv) from hrg wr hd.out.low 0 _ rfl)
      have hs4 := fun w9 (g : Below w.heap.size w w9) => (show w9.cell? ⟨bb, od + 1, none⟩ = some (.int .i64 t) ∧ w9.cell? ⟨bb, od + 2, none⟩ = some (.int .i64 v1) ∧ w9.cell? ⟨bb, od + 2 + 1, none⟩ = some (.int .i64 v2) ∧ w9.cell? ⟨bb, od + 2 + 2, none⟩ = some (.int .i64 v3) from ⟨hrg w9 g 1 _ rfl, hrg w9 g 2 _ rfl, hrg w9 g 3 _ rfl, hrg w9 g 4 _ rfl⟩)
      have hdd : LpSo C w F j j2 B2 c (.slice an nl0 cn') (.slice ah hl0 ch) (f k.toNat) wr.drew :=
        ⟨C.mono hd.out.led (G := fun _ => False) (Kp.of_below (below_drewN (Below.refl wr.heap.size wr) 1) (fun k hk => hk.1)) (fun k hk => hk.elim) (fun k hk => .inl hk), hd.out.ref.under (below_drewN (Below.refl _ _) 1), below_drewN hd.out.low 1⟩
      have q4 := hs4 wr hd.out.low
      have HI := Lib.hid hi; have HSUCC := Lib.hid hsuc; have HS4 := Lib.hid hs4; have HOKK := Lib.hid hok; have HDW1 := Lib.hid hdw; have HDD := Lib.hid hdd; have HD := Lib.hid hd.out
      clear hrg hsuc hs4 hok hdw hdd hx hod hd
      cases gv
      · have hs := HSUCC.out
        rw [if_neg (by decide)] at hs
        have HSS := Lib.hid hs
        clear hs HSUCC
        go_upto_region 12 with fail
        go_region_held3 (fun w' => w'.cell? ⟨bb, od + 1, none⟩ = some (.int .i64 t) ∧ w'.cell? ⟨bb, od + 2, none⟩ = some (.int .i64 v1) ∧ w'.cell? ⟨bb, od + 2 + 1, none⟩ = some (.int .i64 v2) ∧ w'.cell? ⟨bb, od + 2 + 2, none⟩ = some (.int .i64 v3)) (first | assumption | exact HS4.out _ HDD.out.low | go_keep) (first | (go_at_call 14; refine (C.take HDD.out.led (k * 1048576) t ⟨v1, v2, v3⟩ HOKK.out (by omega) HDW1.out.1 HDW1.out.2).mono ?_; rintro er w10 ⟨rfl, a10, b10⟩; have l10 := Lib.hid (HDD.out.low.trans (b10.below (fun k hk => FL.out.low k hk))); have y10 := HS4.out w10 l10.out; have A10 := Lib.hid (And.intro a10 b10); clear a10 b10) | (go_at_call 15; refine (rTake12 (HDD.out.ref.kp A10.out.2 FL.out.one FL.out.two) (fun wz g => HATT.out wz (l10.out.trans (g.below FL.out.above l10.out.size))) (HNLC.out (by trivial)) t ⟨v1, v2, v3⟩).mono ?_; rintro er w11 ⟨rfl, r11, k11⟩; have R11 := Lib.hid (And.intro r11 k11); have y11 := HS4.out w11 (l10.out.trans (k11.below FL.out.above l10.out.size)); clear r11 k11))
        have S1 := Lib.hid (HDD.out.both FL.out (HSS.out.symm ▸ A10.out.1) A10.out.2 (HSS.out.symm ▸ R11.out.1) R11.out.2)
        have hok1 := HOK.out (k.toNat + 1) (by omega)
        have hln1 := HLEN.out (k.toNat + 1) (by omega)
        obtain ⟨L1, hL1⟩ : ∃ l, f (k.toNat + 1) = l := ⟨_, rfl⟩
        rw [hL1] at hok1 hln1 S1
        have HL1 := Lib.hid hL1; have HOK1 := Lib.hid hok1; have HLN1 := Lib.hid hln1
        clear hL1 hok1 hln1 HSS A10 R11 HDD y10 y11 l10 q4 c0
        obtain ⟨E, hE⟩ : ∃ x, (Lg.take c.nodes (f k.toNat) t ⟨v1, v2, v3⟩).2 = x := ⟨_, rfl⟩
        rw [hE]
        clear hE
        go_upto_region 13 with fail
        obtain ⟨N, hN⟩ : ∃ n, c.nodes.length = n := ⟨_, rfl⟩
        have hsd : LpSo C w F j j2 B2 c (.slice an nl0 cn') (.slice ah hl0 ch) L1 w11.drew :=
          ⟨C.mono S1.out.led (G := fun _ => False) (Kp.of_below (below_drewN (Below.refl w11.heap.size w11) 1) (fun k hk => hk.1)) (fun k hk => hk.elim) (fun k hk => .inl hk), S1.out.ref.under (below_drewN (Below.refl _ _) 1), below_drewN S1.out.low 1⟩
        have SD := Lib.hid hsd
        have h41 : w11.cell? ⟨j2, 4, none⟩ = some (.slice (some ⟨B2, 0, none⟩) N N) := by rw [← hN]; exact S1.out.ref.box.at_ 4
        have p41 := (HS4.out w11 S1.out.low).1
        have HN := Lib.hid hN
        have hall := C.all hsd.led ((k + 1) * 1048576) (by have := HOK1.out; rw [show ((k.toNat + 1 : Nat) : Int) = k + 1 by omega] at this; exact this) (by omega)
        rw [HLN1.out, hN] at hall
        have HALL := Lib.hid hall
        have hnq := fun w => vec_neq3 w (Qt.ath L1 t) (Qt.ath L1 t)
        rw [show (!decide (Qt.ath L1 t = Qt.ath L1 t)) = false by simp] at hnq
        have hnr : ∀ w, (binOp .neq 35 (.agg (Qt.ath L1 t).c) (.agg (Qt.ath L1 t).c)).run Try.prog w = .ok (.bool false) w := hnq
        have hqg := fun w (x y : Operand) (xs ys : Array Value) => vec_guard w .neq x y xs ys
        clear hsd hall hN
        go_region_held3 (fun w' => w'.cell? ⟨bb, od + 1, none⟩ = some (.int .i64 t) ∧ w'.cell? ⟨j2, 4, none⟩ = some (.slice (some ⟨B2, 0, none⟩) N N)) (first | assumption | exact ⟨p41, h41⟩ | go_keep) (first | (go_at_call 17; refine HALL.out.mono ?_; rintro er w12 ⟨ao3, cap3, b3, rfl, sl3, hb3, a12, k12⟩; have r12 := SD.out.ref.kp k12 FL.out.one FL.out.two; have l12 := Lib.hid (SD.out.low.trans (k12.below (fun k hk => FL.out.low k hk))); have y12 := And.intro (HS4.out w12 l12.out).1 (show w12.cell? ⟨j2, 4, none⟩ = some (.slice (some ⟨B2, 0, none⟩) N N) by rw [← HN.out]; exact r12.box.at_ 4); have cl0 := rList3 L1 L1 sl3 (row_sl r12.rows (by rw [HLN1.out]; have := HNLC.out (by trivial); omega) N); rw [show decide (L1 = L1) = true by simp, HLN1.out, HN.out] at cl0; have CLI := Lib.hid cl0; have A12 := Lib.hid a12; have R12 := Lib.hid r12; clear sl3 a12 r12 cl0 k12) | (go_at_call 16; refine CLI.out.mono ?_; rintro er w13 ⟨rfl, b13⟩; have r13 := R12.out.under b13; have l13 := Lib.hid (below_trans l12.out b13); have y13 := And.intro (HS4.out w13 l13.out).1 (show w13.cell? ⟨j2, 4, none⟩ = some (.slice (some ⟨B2, 0, none⟩) N N) by rw [← HN.out]; exact r13.box.at_ 4); have us0 := C.used (C.mono A12.out (G := fun _ => False) (K := F) (Kp.of_below b13 (fun k hk => hk.1)) (fun k hk => hk.elim) (fun k hk => .inl (.inl hk))) ((k + 1) * 1048576) t (by have := HOK1.out; rw [show ((k.toNat + 1 : Nat) : Int) = k + 1 by omega] at this; exact this) (by omega) HDW1.out.1; have US := Lib.hid us0; have R13 := Lib.hid r13; clear r13 b13 us0) | (go_at_call 18; refine US.out.mono ?_; rintro er w14 ⟨rfl, a14, k14⟩; have r14 := R13.out.kp k14 FL.out.one FL.out.two; have l14 := Lib.hid (l13.out.trans (k14.below (fun k hk => FL.out.low k hk))); have y14 := And.intro (HS4.out w14 l14.out).1 (show w14.cell? ⟨j2, 4, none⟩ = some (.slice (some ⟨B2, 0, none⟩) N N) by rw [← HN.out]; exact r14.box.at_ 4); have at0 := rAt3 L1 _ N B2 0 t w14 (row_sl r14.rows (by rw [HLN1.out]; have := HNLC.out (by trivial); omega) N); rw [HLN1.out, HN.out] at at0; have AT0 := Lib.hid at0; have A14 := Lib.hid a14; have R14 := Lib.hid r14; clear a14 r14 k14 at0) | (go_at_call 19; refine AT0.out.mono ?_; rintro er w15 ⟨rfl, b15⟩; have L15 := Lib.hid (show LpSo C w F j j2 B2 c (.slice an nl0 cn') (.slice ah hl0 ch) L1 w15 from ⟨C.mono A14.out (G := fun _ => False) (K := F) (Kp.of_below b15 (fun k hk => hk.1)) (fun k hk => hk.elim) (fun k hk => .inl hk), R14.out.under b15, below_trans l14.out b15⟩); have y15 := And.intro (HS4.out w15 L15.out.low).1 (show w15.cell? ⟨j2, 4, none⟩ = some (.slice (some ⟨B2, 0, none⟩) N N) by rw [← HN.out]; exact L15.out.ref.box.at_ 4); clear b15))
        go_wp2_with fail
        go_roundw
        case rel => exact ⟨k + 1, rfl, by omega, by omega, by omega, by rw [show (k + 1).toNat = k.toNat + 1 by omega, HL1.out]; exact L15.out⟩
        case measure => simp [intOf]; omega
      · have hs := HSUCC.out
        rw [if_pos rfl] at hs
        have HSS := Lib.hid hs
        clear hs HSUCC
        go_upto_region 11 with fail
        go_region_held3 (fun w' => w'.cell? ⟨bb, od + 1, none⟩ = some (.int .i64 t) ∧ w'.cell? ⟨bb, od + 2, none⟩ = some (.int .i64 v1) ∧ w'.cell? ⟨bb, od + 2 + 1, none⟩ = some (.int .i64 v2) ∧ w'.cell? ⟨bb, od + 2 + 2, none⟩ = some (.int .i64 v3)) (first | assumption | exact HS4.out _ HDD.out.low | go_keep) (first | (go_at_call 12; refine (C.give HDD.out.led (k * 1048576) t ⟨v1, v2, v3⟩ HOKK.out (by omega) HDW1.out.1 HDW1.out.2).mono ?_; rintro er w10 ⟨rfl, a10, b10⟩; have l10 := Lib.hid (HDD.out.low.trans (b10.below (fun k hk => FL.out.low k hk))); have y10 := HS4.out w10 l10.out; have A10 := Lib.hid (And.intro a10 b10); clear a10 b10) | (go_at_call 13; refine (rGive12 (HDD.out.ref.kp A10.out.2 FL.out.one FL.out.two) (fun wz g => HATT.out wz (l10.out.trans (g.below FL.out.above l10.out.size))) (HNLC.out (by trivial)) t ⟨v1, v2, v3⟩).mono ?_; rintro er w11 ⟨rfl, r11, k11⟩; have R11 := Lib.hid (And.intro r11 k11); have y11 := HS4.out w11 (l10.out.trans (k11.below FL.out.above l10.out.size)); clear r11 k11))
        have S1 := Lib.hid (HDD.out.both FL.out (HSS.out.symm ▸ A10.out.1) A10.out.2 (HSS.out.symm ▸ R11.out.1) R11.out.2)
        have hok1 := HOK.out (k.toNat + 1) (by omega)
        have hln1 := HLEN.out (k.toNat + 1) (by omega)
        obtain ⟨L1, hL1⟩ : ∃ l, f (k.toNat + 1) = l := ⟨_, rfl⟩
        rw [hL1] at hok1 hln1 S1
        have HL1 := Lib.hid hL1; have HOK1 := Lib.hid hok1; have HLN1 := Lib.hid hln1
        clear hL1 hok1 hln1 HSS A10 R11 HDD y10 y11 l10 q4 c0
        obtain ⟨E, hE⟩ : ∃ x, (Lg.give c.nodes (f k.toNat) t ⟨v1, v2, v3⟩).2 = x := ⟨_, rfl⟩
        rw [hE]
        clear hE
        go_upto_region 13 with fail
        obtain ⟨N, hN⟩ : ∃ n, c.nodes.length = n := ⟨_, rfl⟩
        have hsd : LpSo C w F j j2 B2 c (.slice an nl0 cn') (.slice ah hl0 ch) L1 w11.drew :=
          ⟨C.mono S1.out.led (G := fun _ => False) (Kp.of_below (below_drewN (Below.refl w11.heap.size w11) 1) (fun k hk => hk.1)) (fun k hk => hk.elim) (fun k hk => .inl hk), S1.out.ref.under (below_drewN (Below.refl _ _) 1), below_drewN S1.out.low 1⟩
        have SD := Lib.hid hsd
        have h41 : w11.cell? ⟨j2, 4, none⟩ = some (.slice (some ⟨B2, 0, none⟩) N N) := by rw [← hN]; exact S1.out.ref.box.at_ 4
        have p41 := (HS4.out w11 S1.out.low).1
        have HN := Lib.hid hN
        have hall := C.all hsd.led ((k + 1) * 1048576) (by have := HOK1.out; rw [show ((k.toNat + 1 : Nat) : Int) = k + 1 by omega] at this; exact this) (by omega)
        rw [HLN1.out, hN] at hall
        have HALL := Lib.hid hall
        have hnq := fun w => vec_neq3 w (Qt.ath L1 t) (Qt.ath L1 t)
        rw [show (!decide (Qt.ath L1 t = Qt.ath L1 t)) = false by simp] at hnq
        have hnr : ∀ w, (binOp .neq 35 (.agg (Qt.ath L1 t).c) (.agg (Qt.ath L1 t).c)).run Try.prog w = .ok (.bool false) w := hnq
        have hqg := fun w (x y : Operand) (xs ys : Array Value) => vec_guard w .neq x y xs ys
        clear hsd hall hN
        go_region_held3 (fun w' => w'.cell? ⟨bb, od + 1, none⟩ = some (.int .i64 t) ∧ w'.cell? ⟨j2, 4, none⟩ = some (.slice (some ⟨B2, 0, none⟩) N N)) (first | assumption | exact ⟨p41, h41⟩ | go_keep) (first | (go_at_call 17; refine HALL.out.mono ?_; rintro er w12 ⟨ao3, cap3, b3, rfl, sl3, hb3, a12, k12⟩; have r12 := SD.out.ref.kp k12 FL.out.one FL.out.two; have l12 := Lib.hid (SD.out.low.trans (k12.below (fun k hk => FL.out.low k hk))); have y12 := And.intro (HS4.out w12 l12.out).1 (show w12.cell? ⟨j2, 4, none⟩ = some (.slice (some ⟨B2, 0, none⟩) N N) by rw [← HN.out]; exact r12.box.at_ 4); have cl0 := rList3 L1 L1 sl3 (row_sl r12.rows (by rw [HLN1.out]; have := HNLC.out (by trivial); omega) N); rw [show decide (L1 = L1) = true by simp, HLN1.out, HN.out] at cl0; have CLI := Lib.hid cl0; have A12 := Lib.hid a12; have R12 := Lib.hid r12; clear sl3 a12 r12 cl0 k12) | (go_at_call 16; refine CLI.out.mono ?_; rintro er w13 ⟨rfl, b13⟩; have r13 := R12.out.under b13; have l13 := Lib.hid (below_trans l12.out b13); have y13 := And.intro (HS4.out w13 l13.out).1 (show w13.cell? ⟨j2, 4, none⟩ = some (.slice (some ⟨B2, 0, none⟩) N N) by rw [← HN.out]; exact r13.box.at_ 4); have us0 := C.used (C.mono A12.out (G := fun _ => False) (K := F) (Kp.of_below b13 (fun k hk => hk.1)) (fun k hk => hk.elim) (fun k hk => .inl (.inl hk))) ((k + 1) * 1048576) t (by have := HOK1.out; rw [show ((k.toNat + 1 : Nat) : Int) = k + 1 by omega] at this; exact this) (by omega) HDW1.out.1; have US := Lib.hid us0; have R13 := Lib.hid r13; clear r13 b13 us0) | (go_at_call 18; refine US.out.mono ?_; rintro er w14 ⟨rfl, a14, k14⟩; have r14 := R13.out.kp k14 FL.out.one FL.out.two; have l14 := Lib.hid (l13.out.trans (k14.below (fun k hk => FL.out.low k hk))); have y14 := And.intro (HS4.out w14 l14.out).1 (show w14.cell? ⟨j2, 4, none⟩ = some (.slice (some ⟨B2, 0, none⟩) N N) by rw [← HN.out]; exact r14.box.at_ 4); have at0 := rAt3 L1 _ N B2 0 t w14 (row_sl r14.rows (by rw [HLN1.out]; have := HNLC.out (by trivial); omega) N); rw [HLN1.out, HN.out] at at0; have AT0 := Lib.hid at0; have A14 := Lib.hid a14; have R14 := Lib.hid r14; clear a14 r14 k14 at0) | (go_at_call 19; refine AT0.out.mono ?_; rintro er w15 ⟨rfl, b15⟩; have L15 := Lib.hid (show LpSo C w F j j2 B2 c (.slice an nl0 cn') (.slice ah hl0 ch) L1 w15 from ⟨C.mono A14.out (G := fun _ => False) (K := F) (Kp.of_below b15 (fun k hk => hk.1)) (fun k hk => hk.elim) (fun k hk => .inl hk), R14.out.under b15, below_trans l14.out b15⟩); have y15 := And.intro (HS4.out w15 L15.out.low).1 (show w15.cell? ⟨j2, 4, none⟩ = some (.slice (some ⟨B2, 0, none⟩) N N) by rw [← HN.out]; exact L15.out.ref.box.at_ 4); clear b15))
        go_wp2_with fail
        go_roundw
        case rel => exact ⟨k + 1, rfl, by omega, by omega, by omega, by rw [show (k + 1).toNat = k.toNat + 1 by omega, HL1.out]; exact L15.out⟩
        case measure => simp [intOf]; omega
    · have LOW := Lib.hid hd.out.low
      clear hd
      rcases (show k < zd ∨ zd ≤ k by omega) with h1 | h1
      all_goals (
        go_wp2_with fail
        refine (cA.out _).mono ?_
        rintro er wz ⟨rfl, bz⟩
        have GZ := Lib.hid (below_trans LOW.out bz); clear bz
        go_wp2_with fail
        go_ret
        exact ⟨rfl, GZ.out⟩)

end Go.Proofs.Ytkaikekibmgmmaa

/- The reference's ledger: more, less. -/
import Derived.Test.YtkaikekibmgmmaaLg
import Derived.Test.YtkaikekibmgmmaaGe
namespace Go.Proofs.Ytkaikekibmgmmaa
open Go.RowKit
set_option linter.unusedVariables false

theorem ath_get {l : List V3} {x : Int} (h : 0 ≤ x ∧ x < l.length) : l[x.toNat]? = some (Qt.ath l x) := by
  rw [Qt.ath, if_pos h, List.getD_eq_getElem?_getD, List.getElem?_eq_getElem (by omega)]
  rfl
theorem upd_snoc (g : V3 → V3) : ∀ (p : List Int) (x : Int) (l : List V3), Lg.upd g (p ++ [x]) l = (Lg.upd g p l).set x.toNat (g (Qt.ath (Lg.upd g p l) x))
  | [], x, l => rfl
  | n :: p, x, l => by rw [List.cons_append, Lg.upd, upd_snoc g p, Lg.upd]
/-- On the way so far. -/
def Lg.upto (g : V3 → V3) (p : List Int) (l : List V3) (j : Nat) : List V3 := Lg.upd g (p.take j) l
theorem Lg.upto_len (g : V3 → V3) (p : List Int) (l : List V3) (j : Nat) : (Lg.upto g p l j).length = l.length := Lg.upd_len _ _ _
theorem Lg.upto_succ (g : V3 → V3) (p : List Int) (l : List V3) (j : Nat) (x : Int) (h : p[j]? = some x) : (Lg.upto g p l j).set x.toNat (g (Qt.ath (Lg.upto g p l j) x)) = Lg.upto g p l (j + 1) := by
  have hl : j < p.length := by
    rcases Nat.lt_or_ge j p.length with q | q
    · exact q
    · rw [List.getElem?_eq_none q] at h; cases h
  rw [Lg.upto, Lg.upto, List.take_add_one, h]
  exact (upd_snoc g (p.take j) x l).symm

theorem rPathAt {c : Cmd} {vn vh : Value} {w : World} (n : Int) (h : CmAt c vn vh w) (h12 : c.nodes.length ≤ 12) : Calls Try.prog 34 #[.agg (c.f vn vh), .int .i64 n] w fun e w' => ∃ v, e = .returned v ∧ w'.ownsRow (w.heap.size + 1) 3 1 v (Qt.path c.nodes n).length (cellsOf iC (Qt.path c.nodes n)) ∧ Below w.heap.size w w' := by
  obtain ⟨an, cn, nb, no, ah, ch, hb, ho, rfl, rfl, s1, s2⟩ := h
  exact rPath_any c.nodes an ah cn nb no c.hosts.length ch c.half c.age n w s1 h12
theorem rLeafAt12 {c : Cmd} {vn vh : Value} {w : World} (n : Int) (h : CmAt c vn vh w) : Calls Try.prog 33 #[.agg (c.f vn vh), .int .i64 n] w (RetBelow (.bool (Cf.leaf c.nodes n)) w) := by
  obtain ⟨an, cn, nb, no, ah, ch, hb, ho, rfl, rfl, s1, s2⟩ := h
  exact rLeaf_any c.nodes an ah cn nb no _ ch c.half c.age n w s1

/-- The reference's ledger in memory. -/
structure LedAt (w : World) (j B : Nat) (c : Cmd) (vn vh : Value) (L : List V3) : Prop where
  box : Row w j #[vn, vh, .int .i64 c.half, .int .i64 c.age, .slice (some ⟨B, 0, none⟩) c.nodes.length c.nodes.length] 44
  rows : Row w B (cellsOf V3.c L).toArray 35
  ne : j ≠ B
  len : L.length = c.nodes.length
theorem LedAt.under {w w' : World} {j B : Nat} {c : Cmd} {vn vh : Value} {L : List V3} (h : LedAt w j B c vn vh L) (g : Below w.heap.size w w') : LedAt w' j B c vn vh L := ⟨h.box.under g, h.rows.under g, h.ne, h.len⟩
theorem LedAt.aside {w w' : World} {j B b : Nat} {c : Cmd} {vn vh : Value} {L : List V3} (h : LedAt w j B c vn vh L) (g : But b w w') (hj : j ≠ b) (hB : B ≠ b) : LedAt w' j B c vn vh L := ⟨h.box.keep g hj, h.rows.keep g hB, h.ne, h.len⟩

structure TkSo (w : World) (j B : Nat) (c : Cmd) (vn vh : Value) (v : Array Value) (L : List V3) (wr : World) : Prop where
  led : LedAt wr j B c vn vh L
  arg : Row wr w.heap.size v 35
  but : But B w wr
theorem TkSo.under {w wr wz : World} {j B : Nat} {c : Cmd} {vn vh : Value} {v : Array Value} {L : List V3} (h : TkSo w j B c vn vh v L wr) (g : Below wr.heap.size wr wz) : TkSo w j B c vn vh v L wz :=
  ⟨h.led.under g, h.arg.under g, h.but.trans (But.of_below g)⟩

set_option maxHeartbeats 1000000 in
set_option maxRecDepth 8000 in
theorem rTake12 {c : Cmd} {vn vh : Value} {w : World} {j B : Nat} {L : List V3} (hA : LedAt w j B c vn vh L) (hC : ∀ w', But B w w' → CmAt c vn vh w') (h12 : c.nodes.length ≤ 12) (t : Int) (v : V3) :
    Calls Try.prog 15 #[.pointer (some ⟨j, 0, none⟩), .int .i64 t, .agg v.c] w fun e w' => e = .returned (.int .i64 (Lg.take c.nodes L t v).2) ∧ LedAt w' j B c vn vh (Lg.take c.nodes L t v).1 ∧ But B w w' := by
  have hcv := fun w2 => rValid3 v w2
  have hlf := fun w2 (g : But B w w2) => rLeafAt12 t (hC w2 g)
  have hpa := fun w2 (g : But B w w2) => rPathAt t (hC w2 g) h12
  have hpi : ∀ n ∈ Qt.path c.nodes t, 0 ≤ n ∧ n < (c.nodes.length : Int) := fun n hn => Lg.path_in c.nodes _ _ _ (by simp) n hn
  have hus := Lg.upto_succ (fun u => Qt.add u v) (Qt.path c.nodes t) L
  have hu0 : Lg.upto (fun u => Qt.add u v) (Qt.path c.nodes t) L 0 = L := rfl
  have hul := fun k => (Lg.upto_len (fun u => Qt.add u v) (Qt.path c.nodes t) L k).trans hA.len
  have hue : Lg.upto (fun u => Qt.add u v) (Qt.path c.nodes t) L (Qt.path c.nodes t).length = Lg.upd (fun u => Qt.add u v) (Qt.path c.nodes t) L := by rw [Lg.upto, List.take_length]
  have hadd := fun y w2 => rAdd3 y v w2
  obtain ⟨an, ln, cn, ah, lh, ch, rfl, rfl⟩ := (hC w (But.refl _ _)).slices
  obtain ⟨U, hU⟩ : ∃ f, Lg.upto (fun u => Qt.add u v) (Qt.path c.nodes t) L = f := ⟨_, rfl⟩
  rw [hU] at hus hu0 hul hue
  obtain ⟨VV, hVV⟩ : ∃ f, Cf.valid v = f := ⟨_, rfl⟩
  obtain ⟨LF, hLF⟩ : ∃ f, Cf.leaf c.nodes t = f := ⟨_, rfl⟩
  obtain ⟨P, hP⟩ : ∃ f, Qt.path c.nodes t = f := ⟨_, rfl⟩
  obtain ⟨R, hR⟩ : ∃ r, Lg.take c.nodes L t v = r := ⟨_, rfl⟩
  have hres := hR
  unfold Lg.take at hres
  rw [hVV, hLF, hP, ← hP, ← hue, hP] at hres
  rw [hR]
  simp only [hVV] at hcv
  simp only [hLF] at hlf
  simp only [hP] at hpa hpi hus hue hres
  have b0 : But B w (w.alloc (.cells v.c 35)) := (But.refl _ _).alloc _
  have al := (Below.refl w.heap.size w).alloc (Nat.le_refl w.heap.size) (.cells v.c 35)
  have t0 : TkSo w j B c (.slice an ln cn) (.slice ah lh ch) v.c L (w.alloc (.cells v.c 35)) := ⟨hA.under al, Row.new w _ _, b0⟩
  have hjw := hA.box.lt
  have hBw := hA.rows.lt
  obtain ⟨kind, nodes, hosts, half, age, g, n⟩ := c
  obtain ⟨v1, v2, v3⟩ := v
  simp only [Cmd.f, V3.c] at *
  obtain ⟨nl, hnl⟩ : ∃ n, nodes.length = n := ⟨_, rfl⟩
  rw [hnl] at h12
  have HCV := Lib.hid hcv; have HLF := Lib.hid hlf; have HPA := Lib.hid hpa; have HPI := Lib.hid hpi; have HUS := Lib.hid hus; have HU0 := Lib.hid hu0; have HUL := Lib.hid hul; have HRES := Lib.hid hres; have HADD := Lib.hid hadd; have T0 := Lib.hid t0; have HNL := Lib.hid hnl; have HJB := Lib.hid (And.intro hjw hBw)
  clear hcv hlf hpa hpi hus hu0 hul hue hres hadd t0 al b0 hA hC hjw hBw hVV hLF hP hR hU hnl
  have p0 : (w.alloc (.cells #[.int .i64 v1, .int .i64 v2, .int .i64 v3] 35)).cell? ⟨w.heap.size, 0, none⟩ = some (.int .i64 v1) := T0.out.arg.at_ 0
  have p1 : (w.alloc (.cells #[.int .i64 v1, .int .i64 v2, .int .i64 v3] 35)).cell? ⟨w.heap.size, 1, none⟩ = some (.int .i64 v2) := T0.out.arg.at_ 1
  have p2 : (w.alloc (.cells #[.int .i64 v1, .int .i64 v2, .int .i64 v3] 35)).cell? ⟨w.heap.size, 2, none⟩ = some (.int .i64 v3) := T0.out.arg.at_ 2
  go_enter Try.func15, Try.ntmps15
  go_wp2_with fail
  refine (HCV.out _).mono ?_
  rintro er w1 ⟨rfl, b1⟩
  have T1 := Lib.hid (T0.out.under b1)
  clear b1 p0 p1 p2
  cases VV
  · have hr := HRES.out
    rw [if_pos rfl] at hr
    subst hr
    go_wp2_with fail
    go_ret
    exact ⟨rfl, T1.out.led, T1.out.but⟩
  have d0 : w1.cell? ⟨j, 0, none⟩ = some (.slice an ln cn) := T1.out.led.box.at_ 0
  have d1 : w1.cell? ⟨j, 1, none⟩ = some (.slice ah lh ch) := T1.out.led.box.at_ 1
  have d2 : w1.cell? ⟨j, 2, none⟩ = some (.int .i64 half) := T1.out.led.box.at_ 2
  have d3 : w1.cell? ⟨j, 3, none⟩ = some (.int .i64 age) := T1.out.led.box.at_ 3
  go_wp2_with fail
  refine (HLF.out _ T1.out.but).mono ?_
  rintro er w2 ⟨rfl, b2⟩
  have T2 := Lib.hid (T1.out.under b2)
  clear b2 d0 d1 d2 d3
  cases LF
  · have hr := HRES.out
    rw [if_neg (by decide), if_pos rfl] at hr
    subst hr
    go_wp2_with fail
    go_ret
    exact ⟨rfl, T2.out.led, T2.out.but⟩
  have d0 : w2.cell? ⟨j, 0, none⟩ = some (.slice an ln cn) := T2.out.led.box.at_ 0
  have d1 : w2.cell? ⟨j, 1, none⟩ = some (.slice ah lh ch) := T2.out.led.box.at_ 1
  have d2 : w2.cell? ⟨j, 2, none⟩ = some (.int .i64 half) := T2.out.led.box.at_ 2
  have d3 : w2.cell? ⟨j, 3, none⟩ = some (.int .i64 age) := T2.out.led.box.at_ 3
  go_wp2_with fail
  refine (HPA.out _ T2.out.but).mono ?_
  rintro er w3 ⟨pv, rfl, ow, b3⟩
  have T3 := Lib.hid (T2.out.under b3)
  obtain ⟨lo, lc, lb, rfl, sl, hlb⟩ := own_slice2 iC 68 (k := 1) (fun x => rfl) ow (fun b len cap i hi w0 => int_index b len cap i hi w0)
  have hix := sl.idx
  have p63 := sl.small
  have hBw := HJB.out.2
  have hBs : w.heap.size ≤ w2.heap.size := T2.out.but.size
  have hcl := fun w9 (g : But B w3 w9) (k : Nat) x (hx : P[k]? = some x) => (show w9.cell? ⟨lb, 0 + k * 1, none⟩ = some (.int .i64 x) from by
    have hk : k < P.length := by
      rcases Nat.lt_or_ge k P.length with q | q
      · exact q
      · rw [List.getElem?_eq_none q] at hx; cases hx
    exact (World.cell?_of_block (a := ⟨lb, _, none⟩) (g.block lb (sl.lt (by omega)) (by have := hlb (by omega); omega))).trans (sl.at_ k x hx 0 _ rfl))
  have hex := fun (k : Nat) (e : k < P.length) => (show ∃ x, P[k]? = some x ∧ 0 ≤ x ∧ x < (nl : Int) from ⟨_, List.getElem?_eq_getElem e, by have := HPI.out _ (List.getElem_mem e); rw [HNL.out] at this; exact this⟩)
  have hr := HRES.out
  rw [if_neg (by decide), if_neg (by decide)] at hr
  have hul := HUL.out
  rw [HNL.out] at hul
  obtain ⟨pl, hpl⟩ : ∃ n, P.length = n := ⟨_, rfl⟩
  rw [hpl] at hix p63 hex hr ⊢
  obtain ⟨zp, hzp⟩ : ∃ z : Int, (pl : Int) = z := ⟨_, rfl⟩
  have TS := Lib.hid (show TkSo w j B ⟨kind, nodes, hosts, half, age, g, n⟩ (.slice an ln cn) (.slice ah lh ch) #[.int .i64 v1, .int .i64 v2, .int .i64 v3] (U 0) w3 from by rw [HU0.out]; exact T3.out)
  have HIX := Lib.hid hix; have HCL := Lib.hid hcl; have HEX := Lib.hid hex; have HR := Lib.hid hr; have HULN := Lib.hid hul
  clear hix hcl hex hr hul hpl sl ow b3 hlb d0 d1 d2 d3 HRES hBs hBw
  go_wp2_with fail
  go_loopw [8] (fun i wr => ∃ (k : Int), i = .int .i64 k ∧ 0 ≤ k ∧ k ≤ zp ∧ Hid (TkSo w j B ⟨kind, nodes, hosts, half, age, g, n⟩ (.slice an ln cn) (.slice ah lh ch) #[.int .i64 v1, .int .i64 v2, .int .i64 v3] (U k.toNat) wr ∧ But B w3 wr)) (fun i _ => (zp - intOf i).toNat)
  case atStart => exact ⟨0, rfl, by omega, by omega, TS.out, But.refl _ _⟩
  case round =>
    obtain ⟨k, rfl, hk0, hkz, hd⟩ := hrel
    obtain ⟨ts, hb3⟩ := hd.out
    by_cases hlt : k < zp
    · obtain ⟨x, hx, hx0, hx1⟩ := HEX.out k.toNat (by omega)
      have hi := HIX.out k.toNat (by omega)
      rw [show ((k.toNat : Nat) : Int) = k by omega] at hi
      have hcell := fun w9 (g : Below wr.heap.size wr w9) => HCL.out w9 (hb3.trans (But.of_below g)) k.toNat x hx
      obtain ⟨oj, hoj⟩ : ∃ n, 0 + k.toNat * 1 = n := ⟨_, rfl⟩
      simp only [hoj] at hi hcell
      have hus := HUS.out k.toNat x hx
      have hxi := vec_idx B nl nl x.toNat (by omega)
      rw [show ((x.toNat : Nat) : Int) = x by omega] at hxi
      have hr := (row_sl ts.led.rows (by rw [HULN.out]; omega) nl).at_ x.toNat _ (ath_get (by rw [HULN.out]; omega))
      have hth := fun w9 (g : Below wr.heap.size wr w9) => row_there (ts.led.rows.under g) x.toNat (by rw [HULN.out]; omega)
      obtain ⟨y, hy⟩ : ∃ y, Qt.ath (U k.toNat) x = y := ⟨_, rfl⟩
      rw [hy] at hr hus
      have hadd := fun w9 => HADD.out y w9
      obtain ⟨z, hz⟩ : ∃ z, Qt.add y ⟨v1, v2, v3⟩ = z := ⟨_, rfl⟩
      rw [hz] at hus
      simp only [hz] at hadd
      have fin := fun w9 (g : Below wr.heap.size wr w9) => row_set3 (ts.led.rows.under g) x.toNat z (by rw [HULN.out]; omega)
      simp only [hus] at fin
      obtain ⟨oi, hoi⟩ : ∃ n, 0 + x.toNat * 3 = n := ⟨_, rfl⟩
      simp only [hoi] at hxi hr hth fin
      obtain ⟨y1, y2, y3⟩ := y
      obtain ⟨z1, z2, z3⟩ := z
      simp only [V3.c] at hr hadd fin
      have hrr := fun w9 (g : Below wr.heap.size wr w9) => (show w9.rangeAt B oi [.int .i64 y1, .int .i64 y2, .int .i64 y3] from fun i q hq => (g.cell (p := ⟨B, _, none⟩) ts.led.rows.lt).trans (hr i q hq))
      have hra := fun w9 (g : Below wr.heap.size wr w9) => vec_row' ts.arg g
      have hsl := fun w9 (g : Below wr.heap.size wr w9) => (show w9.cell? ⟨j, 4, none⟩ = some (.slice (some ⟨B, 0, none⟩) nl nl) from by
        rw [← HNL.out]
        exact (ts.led.box.under g).at_ 4)
      have full := fun w9 (gb : Below wr.heap.size wr w9) => (show TkSo w j B ⟨kind, nodes, hosts, half, age, g, n⟩ (.slice an ln cn) (.slice ah lh ch) #[.int .i64 v1, .int .i64 v2, .int .i64 v3] (U (k.toNat + 1)) (w9.setCells B oi [.int .i64 z1, .int .i64 z2, .int .i64 z3]) from by
        have kb := but_set3 w9 B oi (.int .i64 z1) (.int .i64 z2) (.int .i64 z3)
        have hBw := HJB.out.2
        exact ⟨⟨(ts.led.box.under gb).keep kb ts.led.ne, fin w9 gb, ts.led.ne, HUL.out _⟩, (ts.arg.under gb).keep kb (by omega), (ts.but.trans (But.of_below gb)).trans kb⟩)
      have fb := fun w9 (g : Below wr.heap.size wr w9) => (hb3.trans (But.of_below g)).trans (but_set3 w9 B oi (.int .i64 z1) (.int .i64 z2) (.int .i64 z3))
      have HI := Lib.hid hi; have HCE := Lib.hid hcell; have HXI := Lib.hid hxi; have HRR := Lib.hid hrr; have HRA := Lib.hid hra; have HSL := Lib.hid hsl; have HAD := Lib.hid hadd; have HTH := Lib.hid hth; have FULL := Lib.hid full; have FB := Lib.hid fb
      clear hi hcell hxi hr hrr hra hsl hadd hth fin full fb hus hy hz hoi hoj hx ts hb3 hd
      go_wp2_with fail
      refine region_quiet_tail 21 (fun w9 => Below wr.heap.size wr w9) (by kernel_rfl) (by kernel_rfl) (below_drewN (Below.refl _ _) 1) ?_
      simp only [List.take_succ_cons, List.take_zero, List.drop_succ_cons, List.drop_zero]
      repeat (first
        | (go_big_quiet_skip)
        | (refine quiet_cell _ _ 41 _ _ HSL.out rfl rfl ?_ Try.underlying41 rfl ?_; (focus kernel_rfl); simp only [Act.put, List.setIfInBounds_toArray, List.set_cons_zero, List.set_cons_succ])
        | (with_reducible refine quiet_index 68 _ _ _ _ _ (fun w0 => HI.out w0) rfl rfl rfl ?_ ?_; (focus kernel_rfl); simp only [Act.put, List.setIfInBounds_toArray, List.set_cons_zero, List.set_cons_succ])
        | (with_reducible refine quiet_index 41 _ _ _ _ _ (fun w0 => HXI.out w0) rfl rfl rfl ?_ ?_; (focus kernel_rfl); simp only [Act.put, List.setIfInBounds_toArray, List.set_cons_zero, List.set_cons_succ])
        | (refine quiet_cell _ _ 3 _ _ HCE.out rfl rfl ?_ Try.underlying3 rfl ?_; (focus kernel_rfl); simp only [Act.put, List.setIfInBounds_toArray, List.set_cons_zero, List.set_cons_succ])
        | (refine quiet_row _ _ 35 _ _ HRA.out rfl rfl ?_ Try.underlying35 rfl ?_ ?_; (focus kernel_rfl); (focus kernel_rfl); simp only [Act.put, List.setIfInBounds_toArray, List.set_cons_zero, List.set_cons_succ])
        | (refine quiet_mid B oi _ 35 _ _ HRR.out rfl rfl ?_ Try.underlying35 rfl ?_ ?_; (focus kernel_rfl); (focus kernel_rfl); simp only [Act.put, List.setIfInBounds_toArray, List.set_cons_zero, List.set_cons_succ])
        | (go_big_quiet_step ((intro g2; first
          | (with_reducible rfl)
          | (with_reducible exact quiet_below g2 (HAD.out _))))))
      refine wpQuiet_nil ?_
      intro w9 g9
      have TH9 := Lib.hid (HTH.out w9 g9); have F9 := Lib.hid (FULL.out w9 g9); have B9 := Lib.hid (FB.out w9 g9)
      clear g9 HI HCE HXI HRR HRA HSL HAD HTH FULL FB
      go_wp2_with (first | (refine wpList_store_mid rfl 35 _ _ rfl B oi #[.int .i64 z1, .int .i64 z2, .int .i64 z3] rfl rfl TH9.out vec_len (one_cells z1 z2 z3) ?_) | fail)
      go_roundw
      case rel => exact ⟨k + 1, rfl, by omega, by omega, by rw [show (k + 1).toNat = k.toNat + 1 by omega]; exact ⟨F9.out, B9.out⟩⟩
      case measure => simp [intOf]; omega
    · rw [show k.toNat = pl by omega] at ts
      have hr := HR.out
      subst hr
      have FIN := Lib.hid ts
      clear ts hb3 hd
      go_wp2_with fail
      go_ret
      exact ⟨rfl, FIN.out.led, FIN.out.but⟩

end Go.Proofs.Ytkaikekibmgmmaa
